/-
  Calls of functions whose readings are known.
-/
import Derived.Test.YtbldbneianlolaaEvMem5
namespace Go.Proofs.Ytbldbneianlolaa
open Go.RowKit

variable {P : Program} {G : Ctx} {A : Ann} {T : FuncId → Option Fun} {B : Nat} {w0 w w' : World} {S S' : Nat → Prop} {ν : Nat → Value} {st st' : St} {tmps : Array Value} {ds : List Deferred}

def ArgsRd (w : World) : (ps : List Ty) → Tys.I ps → List Value → Prop
  | [], _, vs => vs = []
  | t :: r, x, vs => ∃ v us, vs = v :: us ∧ RdV w (fun _ => False) t x.1 v ∧ ArgsRd w r x.2 us

def rowBlocks : List RTy → List Value → List Nat
  | .row _ _ :: rs, v :: vs => (match v.ownBlock with | some b => [b] | none => []) ++ rowBlocks rs vs
  | .v _ :: rs, _ :: vs => rowBlocks rs vs
  | _, _ => []

def RetOne (B : Nat) (w : World) (S : Nat → Prop) : (r : RTy) → r.I → Value → Prop
  | .v t, x, v => RdV w (Av S B true) t x v
  | .row eid e, xs, v => ObjRd B w S v ⟨eid, true, e, xs⟩

def RetList (B : Nat) (w : World) (S : Nat → Prop) : (rs : List RTy) → RTys.I rs → List Value → Prop
  | [], _, vs => vs = []
  | [r], x, vs => ∃ v, vs = [v] ∧ RetOne B w S r x v
  | r :: s :: q, x, vs => ∃ v us, vs = v :: us ∧ RetOne B w S r x.1 v ∧ RetList B w S (s :: q) x.2 us

/-- what comes back: each value, what it leads to is new; two rows lie apart -/
def RetRd (B : Nat) (w : World) (rs : List RTy) (x : RTys.I rs) (v : Value) : Prop :=
  ∃ vs, v = (match rs with | [_] => vs.headD undef | _ => .tuple vs.toArray) ∧ (rowBlocks rs vs).Nodup ∧ RetList B w (· ∈ rowBlocks rs vs) rs x vs

structure FunOk (P : Program) (f : FuncId) (fa : Fun) : Prop where
  runs : ∃ fn c, P.funcs[f]? = some fn ∧ (fn.name == "runtime.NumGoroutine") = false ∧ fn.body = some c
  calls : ∀ x r, fa.F x = some r → ∀ (w : World) (args : Array Value), ArgsRd w fa.ps x args.toList →
    Calls P f args w fun e w' => ∃ v, e = .returned v ∧ Below w.heap.size w w' ∧ RetRd w.heap.size w' fa.rs r v

def OpOk (P : Program) (B : Nat) (w0 : World) (o : Oper) (tmps : Array Value) (ds : List Deferred) (w : World) (st' : St) : Prop :=
  ∀ (K : Act → World → Prop) (Q : Exit → Act → World → Prop), (∀ S' ν' tmps' w', Inv B w0 S' ν' st' tmps' w' → (growOp o = true → Ext w w') → K ⟨tmps', ds⟩ w') → o.wp P ⟨tmps, ds⟩ w K Q

theorem act_eta (d : Option Tmp) (v : Value) : Act.put ⟨tmps, ds⟩ d v = ⟨(Act.put ⟨tmps, ds⟩ d v).tmps, ds⟩ := by cases d <;> rfl

theorem MemOk.op {o : Oper} (h : MemOk P B w0 o tmps ds w st') : OpOk P B w0 o tmps ds w st' := by
  intro K Q hK
  obtain ⟨v, w', S', ν', hrun, hinv, hg⟩ := h
  unfold Oper.wp
  rcases hrun with hrun | ⟨hrun, rfl⟩
  · rw [hrun, Oper.upon_value, act_eta]
    exact hK _ _ _ _ hinv hg
  · rw [hrun, Oper.upon_skip, act_eta]
    exact hK _ _ _ _ hinv hg

theorem arg_ok (h : Inv B w0 S ν st tmps w) {s : Slot} {v : Value} (hs : SlotRd B w S ν st.objs s v) {t : Ty} {fr : Bool} {y : t.I} (ha : st.asVal s t = some (fr, y)) : RdV w (fun _ => False) t y v := by
  have weak : ∀ {S : Nat → Prop} {t : Ty} {y : t.I} {v : Value}, RdV w S t y v → RdV w (fun _ => False) t y v := fun h => h.keep (Nat.le_refl _) (fun _ _ h => h.elim) (fun _ _ _ => rfl)
  unfold St.asVal at ha
  split at ha
  · split at ha
    · rename_i y' hy
      cases ha
      exact weak (RdV.cast hy hs)
    · cases ha
  · rename_i b
    split at ha
    · rename_i y' hy
      cases ha
      have hv : v = .bool b := hs
      rw [hv]
      exact RdV.cast hy (bool_val b)
    · cases ha
  · split at ha
    · cases ha
      have hv : v = .slice none 0 0 := hs
      rw [hv]
      exact nil_val
    · cases ha
  · split at ha
    · rename_i y' hy
      cases ha
      exact weak (RdV.cast hy (show Slot1Rd B w S ν st.objs (.nn _ _ _) v from hs).1)
    · cases ha
  · split at ha
    · rename_i o ho
      split at ha
      · rename_i y' hy
        cases ha
        obtain ⟨e1, e2⟩ := ref_val h hs ho
        rw [e1]
        exact RdV.cast hy (e2.val fun _ _ h => h.elim)
      · cases ha
    · cases ha
  · rename_i g fr' e xs
    split at ha
    · rename_i y' hy
      cases ha
      have hv : Slot1Rd B w S ν st.objs (.view g fr e xs) v := hs
      exact weak (RdV.cast hy hv.2)
    · cases ha
  · cases ha

theorem evArgs_ok (h : Inv B w0 S ν st tmps w) : ∀ {ps : List Ty} {args : List Operand} {x : Tys.I ps}, evArgs st ps args = some x → ArgsRd w ps x (args.map (⟨tmps, ds⟩ : Act).eval)
  | [], [], _, _ => rfl
  | [], _ :: _, _, h => by cases h
  | _ :: _, [], _, h => by cases h
  | t :: r, o :: os, x, hr => by
    unfold evArgs at hr
    split at hr
    · rename_i s hs
      split at hr
      · rename_i fr y z hy hz
        cases hr
        exact ⟨_, _, rfl, arg_ok h (opd_ok (ds := ds) h hs) hy, evArgs_ok h hz⟩
      · cases hr
    · cases hr

theorem RetOne.lt {r : RTy} {x : r.I} {v : Value} (h : RetOne B w S r x v) : ∀ b, v.ownBlock = some b → (∃ eid e, r = .row eid e) → B ≤ b ∧ b < w.heap.size := by
  rintro b hb ⟨eid, e, rfl⟩
  obtain ⟨cs, h1, _⟩ := h
  exact h1.lt b hb

theorem RetList.lt : ∀ {rs : List RTy} {x : RTys.I rs} {vs : List Value}, RetList B w S rs x vs → ∀ b ∈ rowBlocks rs vs, B ≤ b ∧ b < w.heap.size
  | [], _, vs, h, b, hb => by
    cases vs <;> cases hb
  | [.v t], x, vs, h, b, hb => by
    obtain ⟨v, rfl, _⟩ := h
    cases hb
  | [.row eid e], x, vs, h, b, hb => by
    obtain ⟨v, rfl, h1⟩ := h
    unfold rowBlocks at hb
    rcases List.mem_append.1 hb with hb | hb
    · split at hb
      · rename_i b' hb'
        rw [List.mem_singleton] at hb
        subst hb
        exact h1.lt _ hb' ⟨_, _, rfl⟩
      · cases hb
    · cases hb
  | .v t :: s :: q, x, vs, h, b, hb => by
    obtain ⟨v, us, rfl, _, h2⟩ := h
    unfold rowBlocks at hb
    exact RetList.lt h2 b hb
  | .row eid e :: s :: q, x, vs, h, b, hb => by
    obtain ⟨v, us, rfl, h1, h2⟩ := h
    unfold rowBlocks at hb
    rcases List.mem_append.1 hb with hb | hb
    · split at hb
      · rename_i b' hb'
        rw [List.mem_singleton] at hb
        subst hb
        exact h1.lt _ hb' ⟨_, _, rfl⟩
      · cases hb
    · exact RetList.lt h2 b hb

/-- the call's own reading of a result, from the callee's -/
theorem ret_own {S1 : Nat → Prop} {B' : Nat} {v : Value} {o : Obj} (hBB : B ≤ B') (hS : ∀ b, S1 b → S b ∨ b < B') (h : ObjRd B' w S v o) (hf : o.fr = true) : ObjRd B w S1 v o := by
  obtain ⟨cs, ⟨h1, h2⟩, h3⟩ := h
  refine ⟨cs, ⟨h1, ?_⟩, h3.keep (Nat.le_refl _) (fun b _ hb => ?_) (fun _ _ _ => rfl)⟩
  · rcases h2 with h2 | ⟨g, cap, cur, k1, k2, k3⟩
    · exact .inl h2
    · exact .inr ⟨g, cap, cur, k1, by omega, k3⟩
  · rcases hb with hb | ⟨_, hb⟩
    · exact (hS b hb).imp id (fun h => ⟨hf, h⟩)
    · exact .inr ⟨hf, by omega⟩

theorem val_own {S1 : Nat → Prop} {B' : Nat} {t : Ty} {x : t.I} {v : Value} (hBB : B ≤ B') (hS : ∀ b, S1 b → S b ∨ b < B') (h : RdV w (Av S B' true) t x v) : RdV w (Av S1 B true) t x v :=
  h.keep (Nat.le_refl _) (fun b _ hb => by
    rcases hb with hb | ⟨_, hb⟩
    · exact (hS b hb).imp id (fun h => ⟨rfl, h⟩)
    · exact .inr ⟨rfl, by omega⟩) (fun _ _ _ => rfl)

theorem retSlots_ok {B' : Nat} {Sr : Nat → Prop} (hBB : B ≤ B') (hS : ∀ b, S b → Sr b ∨ b < B') : ∀ {rs : List RTy} {x : RTys.I rs} {vs : List Value} {tag : Nat} {st st' : St} {ν : Nat → Value} {ss : List Slot},
    Inv B w0 S ν st tmps w → RetList B' w Sr rs x vs → (∀ b ∈ rowBlocks rs vs, S b ∧ ∀ g p, olook g st.objs = some p → (ν g).ownBlock ≠ some b) → (rowBlocks rs vs).Nodup → retSlots tag st rs x = (st', ss) →
    ∃ ν', Inv B w0 S ν' st' tmps w ∧ vs.length = ss.length ∧ (∀ (i : Nat) (s : Slot), ss[i]? = some s → ∃ u, vs[i]? = some u ∧ Slot1Rd B w S ν' st'.objs s u) ∧ ∀ g, g < tag → ν' g = ν g ∧ olook g st'.objs = olook g st.objs := by
  intro rs
  -- one result
  have one : ∀ {r : RTy} {x : r.I} {v : Value} {tag : Nat} {st st1 : St} {ν : Nat → Value} {s : Slot}, Inv B w0 S ν st tmps w → RetOne B' w Sr r x v → (∀ b, v.ownBlock = some b → (∃ eid e, r = .row eid e) → S b ∧ ∀ g p, olook g st.objs = some p → (ν g).ownBlock ≠ some b) →
      retSlot tag st r x = (st1, s) → ∃ ν1, Inv B w0 S ν1 st1 tmps w ∧ Slot1Rd B w S ν1 st1.objs s v ∧ (∀ g, g < tag → ν1 g = ν g ∧ olook g st1.objs = olook g st.objs) ∧
        (∀ g p, olook g st1.objs = some p → (∃ q, olook g st.objs = some q ∧ ν1 g = ν g) ∨ (g = tag ∧ ν1 g = v ∧ ∃ eid e, r = .row eid e)) ∧ (∀ g, s = .ref g → g = tag) ∧ (∀ a b c d e, s ≠ .eptr a b c d e) ∧ ∀ a b c d, s ≠ .view a b c d := by
    intro r x v tag st st1 ν s h hr hb he
    cases r with
    | v t =>
      cases he
      exact ⟨ν, h, val_own hBB hS hr, fun _ _ => ⟨rfl, rfl⟩, fun g p hp => .inl ⟨p, hp, rfl⟩, (fun g e => by cases e), (fun a b c d e h => by cases h), (fun a b c d h => by cases h)⟩
    | row eid e =>
      cases he
      have ho : ObjRd B w S v ⟨eid, true, e, x⟩ := ret_own hBB hS hr rfl
      refine ⟨_, h.adopt tag ho (fun b h' => (hb b h' ⟨_, _, rfl⟩).1) (fun g p b _ hp hgb h' => (hb b h' ⟨_, _, rfl⟩).2 g p hp hgb), ⟨upd_same.symm, _, look_new⟩, fun g hg => ⟨upd_ne (by omega), ?_⟩, fun g p hp => ?_, (fun g e => by cases e; rfl), (fun a b c d e h => by cases h), (fun a b c d h => by cases h)⟩
      · show olook g ((tag, _) :: odrop tag st.objs) = _
        rw [olook_cons, if_neg (by omega), olook_drop_ne (by omega)]
      · rcases olook_new hp with ⟨rfl, rfl⟩ | ⟨hne, hp⟩
        · exact .inr ⟨rfl, upd_same, _, _, rfl⟩
        · exact .inl ⟨p, hp, upd_ne hne⟩
  induction rs with
  | nil =>
    intro x vs tag st st' ν ss h hr _ _ he
    cases he
    have hr : vs = [] := hr
    subst hr
    exact ⟨ν, h, rfl, fun i s hs => by simp at hs, fun _ _ => ⟨rfl, rfl⟩⟩
  | cons r q ih =>
    intro x vs tag st st' ν ss h hr hb hn he
    cases q with
    | nil =>
      obtain ⟨v, rfl, h1⟩ := hr
      unfold retSlots at he
      cases hs : retSlot tag st r x with
      | mk st1 s =>
        rw [hs] at he
        cases he
        obtain ⟨ν1, k1, k2, k3, _⟩ := one h h1 (fun b hvb ⟨eid, e, hre⟩ => hb b (by subst hre; unfold rowBlocks; rw [hvb]; simp)) hs
        refine ⟨ν1, k1, rfl, fun i u hu => ?_, k3⟩
        cases i with
        | zero => cases hu; exact ⟨v, rfl, k2⟩
        | succ i => simp at hu
    | cons s2 q =>
      obtain ⟨v, us, rfl, h1, h2⟩ := hr
      unfold retSlots at he
      cases hs : retSlot tag st r x.1 with
      | mk st1 s =>
        rw [hs] at he
        dsimp only at he
        cases hs2 : retSlots (tag + 1) st1 (s2 :: q) x.2 with
        | mk st2 ss2 =>
          rw [hs2] at he
          cases he
          have hsub : ∀ b ∈ rowBlocks (s2 :: q) us, b ∈ rowBlocks (r :: s2 :: q) (v :: us) := by
            intro b hb2
            cases r <;> simp only [rowBlocks]
            · exact hb2
            · exact List.mem_append.2 (.inr hb2)
          obtain ⟨ν1, k1, k2, k3, k4, k5, k6, k7⟩ := one h h1 (fun b hvb ⟨eid, e, hre⟩ => hb b (by subst hre; simp only [rowBlocks]; rw [hvb]; simp)) hs
          have hn2 : (rowBlocks (s2 :: q) us).Nodup := by
            cases r <;> simp only [rowBlocks] at hn
            · exact hn
            · exact (List.nodup_append.1 hn).2.1
          obtain ⟨ν2, m1, m2, m3, m4⟩ := ih k1 h2 (fun b hb2 => ⟨(hb b (hsub b hb2)).1, fun g p hp hgb => by
            rcases k4 g p hp with ⟨p0, e1, e2⟩ | ⟨rfl, e2, eid, e, hre⟩
            · rw [e2] at hgb
              exact (hb b (hsub b hb2)).2 g p0 e1 hgb
            · rw [e2] at hgb
              subst hre
              simp only [rowBlocks, hgb] at hn
              exact (List.nodup_append.1 hn).2.2 b (by simp) b hb2 rfl⟩) hn2 hs2
          refine ⟨ν2, m1, by simp [m2], fun i u hu => ?_, fun g hg => ?_⟩
          · cases i with
            | zero =>
              cases hu
              refine ⟨v, rfl, Slot1Rd.mono (World.grownBy.refl w none) (fun b _ h => h) k2 fun g hg => ?_⟩
              rcases hg with ⟨t, hg | ⟨a, b, c, d, hg⟩ | ⟨⟨a, b, c, hg⟩, _⟩⟩
              · have e := k5 g hg
                have := m4 g (by omega)
                exact ⟨this.2, this.1⟩
              · exact absurd hg (k6 _ _ _ _ _)
              · exact absurd hg (k7 _ _ _ _)
            | succ i => exact m3 i u (by simpa using hu)
          · obtain ⟨e1, e2⟩ := k3 g hg
            obtain ⟨e3, e4⟩ := m4 g (by omega)
            exact ⟨e3.trans e1, e4.trans e2⟩

theorem run_callFunc {f : FuncId} {args : Array Value} {fn : Func} {c : Code} (h1 : P.funcs[f]? = some fn) (h2 : (fn.name == "runtime.NumGoroutine") = false) (h3 : fn.body = some c) (w' : World) : (callFunc f args).run P w' = .ok (.enter f args) w' := by
  have h2' : fn.name ≠ "runtime.NumGoroutine" := by simpa using h2
  simp [callFunc, h1, h2', h3]

theorem evCall_ok (hT : ∀ f fa, T f = some fa → FunOk P f fa) (h : Inv B w0 S ν st tmps w) {o : Oper} {f : FuncId} {args : List Operand} {ts : Array TypeId} (ho : o.op = .call { callee := .value (.func f), args := ⟨args⟩, argTypes := ts })
    (hr : (evCall T st o.dst f args).run = some st') : OpOk P B w0 o tmps ds w st' := by
  unfold evCall at hr
  split at hr
  · rename_i fa d hfa hd
    have hF := hT f fa hfa
    split at hr
    · rename_i x hx
      obtain ⟨r, hFr, hr⟩ := run_bnd hr
      have hargs := evArgs_ok (ds := ds) h hx
      obtain ⟨fn, c, r1, r2, r3⟩ := hF.runs
      have hcall := hF.calls x r hFr w ⟨args.map (⟨tmps, ds⟩ : Act).eval⟩ hargs
      have hput : ∀ v, Act.put ⟨tmps, ds⟩ o.dst v = ⟨tmps.setIfInBounds d v, ds⟩ := fun v => by rw [hd]; rfl
      intro K Q hK
      unfold Oper.wp
      have hrun : (execOp (⟨tmps, ds⟩ : Act).eval o).run P w = .ok (.enter f ⟨args.map (⟨tmps, ds⟩ : Act).eval⟩) w := by
        simp only [execOp, ho]
        simp [resolve, invoke, Deferred.ofValue, Act.eval, run_callFunc r1 r2 r3]
      rw [hrun, Oper.upon_enter]
      refine hcall.mono fun e w' hpost => ?_
      obtain ⟨v, he, hb, vs, hv, hnd, hl⟩ := hpost
      subst he
      have hext : growOp o = true → Ext w w' := fun _ => Ext.below hb
      have hK' := fun S' ν' tmps' (hi : Inv B w0 S' ν' st' tmps' w') => hK S' ν' tmps' w' hi hext
      show K (Act.put ⟨tmps, ds⟩ o.dst v) w'
      rw [hput]
      -- the blocks of what came back are the call's own
      have hlt := hl.lt
      have hbase : B ≤ w.heap.size := Nat.le_trans h.base h.fr.size
      have h1 : Inv B w0 (fun b => S b ∨ b ∈ rowBlocks fa.rs vs) ν st tmps w' :=
        h.widen (grown_below hb) (fun b hb => .inl hb) (fun b hb => hb.imp id fun hb => (hlt b hb).1) (fun b hb' => hb'.elim (fun hb' => Nat.lt_of_lt_of_le (h.lt b hb') hb.size) fun hb' => (hlt b hb').2)
      have hS : ∀ b, (S b ∨ b ∈ rowBlocks fa.rs vs) → b ∈ rowBlocks fa.rs vs ∨ b < w.heap.size := fun b hb => hb.elim (fun hb => .inr (h.lt b hb)) .inl
      have hfresh : ∀ b ∈ rowBlocks fa.rs vs, (S b ∨ b ∈ rowBlocks fa.rs vs) ∧ ∀ g p, olook g st.objs = some p → (ν g).ownBlock ≠ some b := by
        intro b hb'
        refine ⟨.inr hb', fun g p hp hgb => ?_⟩
        obtain ⟨cs, k1, _⟩ := h.obj g p hp
        have := (k1.lt b hgb).2
        have := (hlt b hb').1
        omega
      clear hcall hFr hF hfa hlt
      revert hr hv hnd hl h1 hS hfresh
      revert r
      generalize fa.rs = rs
      intro r hr hv hnd hl h1 hS hfresh
      match rs, r, hr, hv, hnd, hl, h1, hS, hfresh with
      | [.v t], r, hr, hv, _, hl, h1, hS, _ =>
        cases hr
        obtain ⟨u, rfl, hu⟩ := hl
        cases hv
        exact hK' _ _ _ (h1.set (s := .val true t r) (val_own hbase hS hu) d)
      | [.row eid e], r, hr, hv, hnd, hl, h1, hS, hfresh =>
        cases hr
        obtain ⟨u, rfl, hu⟩ := hl
        cases hv
        have hblk : ∀ b, u.ownBlock = some b → b ∈ rowBlocks [.row eid e] [u] := fun b hb => by simp [rowBlocks, hb]
        have h2 := h1.adopt d (ret_own hbase hS hu rfl) (fun b hb => .inr (hblk b hb)) (fun g p b _ hp hgb h' => (hfresh b (hblk b h')).2 g p hp hgb)
        have h3 := set_ref h2 (tag := d) look_new d
        rw [upd_same] at h3
        exact hK' _ _ _ h3
      | [], r, hr, hv, hnd, hl, h1, hS, hfresh =>
        cases hr
        subst hv
        have hl : vs = [] := hl
        subst hl
        exact hK' _ _ _ (h1.set (s := .tup []) ⟨#[], rfl, rfl, fun i s hs => by simp at hs⟩ d)
      | r1 :: r2 :: q, r, hr, hv, hnd, hl, h1, hS, hfresh =>
        have hr' : (match retSlots (1000 * (d + 1)) st (r1 :: r2 :: q) r with | (st, ss) => (Tr.pure (st.set d (.tup ss)) : Tr St)).run = some st' := by
          cases r1 <;> exact hr
        cases hs : retSlots (1000 * (d + 1)) st (r1 :: r2 :: q) r with
        | mk st1 ss =>
          rw [hs] at hr'
          cases hr'
          obtain ⟨ν1, k1, k2, k3, _⟩ := retSlots_ok hbase hS h1 hl hfresh hnd hs
          subst hv
          exact hK' _ _ _ (k1.set (s := .tup ss) ⟨vs.toArray, rfl, by simpa using k2, fun i s hs => by
            obtain ⟨u, e1, e2⟩ := k3 i s hs
            exact ⟨u, by simpa using e1, e2⟩⟩ d)
    · cases hr
  · cases hr

end Go.Proofs.Ytbldbneianlolaa
