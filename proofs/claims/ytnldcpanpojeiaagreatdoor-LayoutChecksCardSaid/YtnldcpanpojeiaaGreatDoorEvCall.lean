/-
  Calls of functions whose readings are known.
-/
import Derived.Test.YtnldcpanpojeiaaGreatDoorEvLend
namespace Go.Proofs.YtnldcpanpojeiaaGreatDoor
open Go.RowKit
variable {P : Program} {Λ : List Nat} {G : Ctx} {A : Ann} {T : FuncId → Option Callee} {B : Nat} {X : Lnt} {w0 w w' : World} {S S' : Nat → Prop} {ν : Nat → Value} {st st' : St} {tmps : Array Value} {ds : List Deferred}
def ArgsRd (w : World) : (ps : List Ty) → Tys.I ps → List Value → Prop
  | [], _, vs => vs = []
  | t :: r, x, vs => ∃ v us, vs = v :: us ∧ RdV w (fun _ => False) t x.1 v ∧ ArgsRd w r x.2 us
def rowBlocks : List RTy → List Value → List Nat
  | .row _ _ :: rs, v :: vs => (match v.ownBlock with | some b => [b] | none => []) ++ rowBlocks rs vs
  | .v _ :: rs, _ :: vs => rowBlocks rs vs
  | _, _ => []
def RetOne (B : Nat) (w : World) (S : Nat → Prop) : (r : RTy) → r.I → Value → Prop
  | .v t, x, v => RdV w (Av S B true) t x v
  | .row eid e, xs, v => ObjRd B w S v ⟨eid, true, e, xs⟩ ∧ ∀ b, v.ownBlock = some b → B ≤ b
def RetList (B : Nat) (w : World) (S : Nat → Prop) : (rs : List RTy) → RTys.I rs → List Value → Prop
  | [], _, vs => vs = []
  | [r], x, vs => ∃ v, vs = [v] ∧ RetOne B w S r x v
  | r :: s :: q, x, vs => ∃ v us, vs = v :: us ∧ RetOne B w S r x.1 v ∧ RetList B w S (s :: q) x.2 us
def RetRd (B : Nat) (w : World) (rs : List RTy) (x : RTys.I rs) (v : Value) : Prop :=
  ∃ vs, v = (match rs with | [_] => vs.headD undef | _ => .tuple vs.toArray) ∧ (rowBlocks rs vs).Nodup ∧ RetList B w (· ∈ rowBlocks rs vs) rs x vs
structure FunOk (P : Program) (f : FuncId) (fa : Fun) : Prop where
  runs : ∃ fn c, P.funcs[f]? = some fn ∧ (fn.name == "runtime.NumGoroutine") = false ∧ fn.body = some c
  calls : ∀ x r, fa.F x = some r → ∀ (w : World) (args : Array Value), Held w → ArgsRd w fa.ps x args.toList →
    Calls P f args w fun e w' => ∃ v, e = .returned v ∧ Below w.heap.size w w' ∧ RetRd w.heap.size w' fa.rs r v
@[reducible] def retV (rs : List RTy) (vs : List Value) : Value := match rs with | [_] => vs.headD undef | _ => .tuple vs.toArray
def RetOf (B : Nat) (w : World) (rs : List RTy) (x : RTys.I rs) (v : Value) (vs : List Value) : Prop := v = retV rs vs ∧ (rowBlocks rs vs).Nodup ∧ RetList B w (· ∈ rowBlocks rs vs) rs x vs
def ArgsRdS (w : World) (S : Nat → Prop) : (ps : List Ty) → Tys.I ps → List Value → Prop
  | [], _, vs => vs = []
  | t :: r, x, vs => ∃ v us, vs = v :: us ∧ RdV w S t x.1 v ∧ ArgsRdS w S r x.2 us
structure LentOk (P : Program) (f : FuncId) (fa : LFun) : Prop where
  runs : ∃ fn c, P.funcs[f]? = some fn ∧ (fn.name == "runtime.NumGoroutine") = false ∧ fn.body = some c
  calls : ∀ xs x r, fa.F xs x = some r → ∀ (w : World) (S : Nat → Prop) (X : Lnt) (args : List Value), HeldIn w.heap.size X w → (∀ b, ¬ X.more b ∧ ¬ X.av b) → (∀ b, X.v.ownBlock = some b → S b) → (∀ b, S b → b < w.heap.size) → WinRd w S X ⟨fa.eid, false, fa.e, xs⟩ → ArgsRdS w S fa.ps x args →
    Calls P f ⟨X.v :: args⟩ w fun e w' => ∃ v vs, e = .returned v ∧ Kept w.heap.size X w w' ∧ WinRd w' (fun b => S b ∨ b ∈ rowBlocks fa.rs vs) X ⟨fa.eid, false, fa.e, r.1⟩ ∧ RetOf w.heap.size w' fa.rs r.2 v vs
structure BoxOk (P : Program) (f : FuncId) (fa : BFun) : Prop where
  runs : ∃ fn c, P.funcs[f]? = some fn ∧ (fn.name == "runtime.NumGoroutine") = false ∧ fn.body = some c
  calls : ∀ y x r, fa.F y x = some r → ∀ (w : World) (S : Nat → Prop) (b k : Nat) (args : List Value), HeldIn w.heap.size ⟨.slice (some ⟨b, k, none⟩) 1 1, k, fa.e.size, fun _ => False, fun _ => False⟩ w → S b → (∀ b, S b → b < w.heap.size) → WinRd w S ⟨.slice (some ⟨b, k, none⟩) 1 1, k, fa.e.size, fun _ => False, fun _ => False⟩ ⟨fa.eid, false, fa.e, [y]⟩ → ArgsRdS w S fa.ps x args →
    Calls P f ⟨.pointer (some ⟨b, k, none⟩) :: args⟩ w fun e w' => ∃ v vs, e = .returned v ∧ Kept w.heap.size ⟨.slice (some ⟨b, k, none⟩) 1 1, k, fa.e.size, fun _ => False, fun _ => False⟩ w w' ∧ WinRd w' (fun b => S b ∨ b ∈ rowBlocks fa.rs vs) ⟨.slice (some ⟨b, k, none⟩) 1 1, k, fa.e.size, fun _ => False, fun _ => False⟩ ⟨fa.eid, false, fa.e, [r.1]⟩ ∧ RetOf w.heap.size w' fa.rs r.2 v vs
structure RowsRd (w : World) (b k : Nat) (rv : Nat → Value) (hs : List (Nat × TypeId)) (rows : List (Nat × Row)) : Prop where
  cell : ∀ q ∈ rows, w.cell? ⟨b, k + q.1, none⟩ = some (rv q.1)
  obj : ∀ q ∈ rows, ObjRd 0 w (fun _ => False) (rv q.1) ⟨eidAt hs q.1, true, q.2.e, q.2.xs⟩
  flat : ∀ q ∈ rows, q.2.e.flat = true
  apart : ∀ q ∈ rows, ∀ q' ∈ rows, ∀ c, (rv q.1).ownBlock = some c → (rv q'.1).ownBlock = some c → q.1 = q'.1
def boxLnt (b k n : Nat) (rv : Nat → Value) (rows : List (Nat × Row)) : Lnt := ⟨.slice (some ⟨b, k, none⟩) 1 1, k, n, fun c => ∃ q ∈ rows, (rv q.1).ownBlock = some c, fun _ => False⟩
structure HBoxOk (P : Program) (f : FuncId) (fa : HFun) : Prop where
  runs : ∃ fn c, P.funcs[f]? = some fn ∧ (fn.name == "runtime.NumGoroutine") = false ∧ fn.body = some c
  calls : ∀ y x r, fa.F y x = some r → ∀ (w : World) (S : Nat → Prop) (b k : Nat) (rv : Nat → Value) (args : List Value), HeldIn w.heap.size (boxLnt b k (holeT fa.p).size rv (rowsOf fa.p y 0)) w → S b → (∀ b, S b → b < w.heap.size) →
    (∀ q ∈ rowsOf fa.p y 0, ∀ c, (rv q.1).ownBlock = some c → S c ∧ c ≠ b) → WinRd w S (boxLnt b k (holeT fa.p).size rv (rowsOf fa.p y 0)) ⟨fa.eid, false, holeT fa.p, [strip fa.p y]⟩ → RowsRd w b k rv fa.hs (rowsOf fa.p y 0) → ArgsRdS w S fa.ps x args →
    Calls P f ⟨.pointer (some ⟨b, k, none⟩) :: args⟩ w fun e w' => ∃ v vs rv', e = .returned v ∧ Kept w.heap.size (boxLnt b k (holeT fa.p).size rv (rowsOf fa.p y 0)) w w' ∧
      WinRd w' S (boxLnt b k (holeT fa.p).size rv (rowsOf fa.p y 0)) ⟨fa.eid, false, holeT fa.p, [strip fa.p r.1]⟩ ∧ RowsRd w' b k rv' fa.hs (rowsOf fa.p r.1 0) ∧
      (∀ q ∈ rowsOf fa.p r.1 0, ∀ c, (rv' q.1).ownBlock = some c → (∃ q' ∈ rowsOf fa.p y 0, (rv q'.1).ownBlock = some c) ∨ w.heap.size ≤ c) ∧ RetOf w.heap.size w' fa.rs r.2 v vs
def takeLnt (v : Value) : Lnt := ⟨.slice none 0 0, 0, 0, fun c => v.ownBlock = some c, fun _ => False⟩
structure TakeOk (P : Program) (f : FuncId) (fa : TFun) : Prop where
  runs : ∃ fn c, P.funcs[f]? = some fn ∧ (fn.name == "runtime.NumGoroutine") = false ∧ fn.body = some c
  calls : fa.e.flat = true → ∀ xs x r, fa.F xs x = some r → ∀ (w : World) (S : Nat → Prop) (v : Value) (args : List Value), HeldIn w.heap.size (takeLnt v) w → (∀ b, S b → b < w.heap.size) → (∀ b, v.ownBlock = some b → S b) → ObjRd 0 w (fun _ => False) v ⟨fa.eid, true, fa.e, xs⟩ → ArgsRdS w S fa.ps x args →
    Calls P f ⟨v :: args⟩ w fun e w' => ∃ v', e = .returned v' ∧ Kept w.heap.size (takeLnt v) w w' ∧ ObjRd 0 w' (fun _ => False) v' ⟨fa.eid, true, fa.e, r⟩ ∧ ∀ b, v'.ownBlock = some b → v.ownBlock = some b ∨ w.heap.size ≤ b
def retO (v0 : Value) : List Value → Value
  | [] => v0
  | vs => .tuple (v0 :: vs).toArray
structure OldOk (P : Program) (f : FuncId) (fa : OFun) : Prop where
  runs : ∃ fn c, P.funcs[f]? = some fn ∧ (fn.name == "runtime.NumGoroutine") = false ∧ fn.body = some c
  calls : ∀ x r, fa.F x = some r → ∀ (w : World) (S : Nat → Prop) (args : List Value), Held w → (∀ b, S b → b < w.heap.size) → ArgsRdS w S fa.ps x args →
    Calls P f ⟨args⟩ w fun e w' => ∃ v0 vs, e = .returned (retO v0 vs) ∧ Below w.heap.size w w' ∧ (rowBlocks fa.rs vs).Nodup ∧ RdV w' (fun b => S b ∨ b ∈ rowBlocks fa.rs vs) fa.t r.1 v0 ∧ RetList w.heap.size w' (· ∈ rowBlocks fa.rs vs) fa.rs r.2 vs
def CalleeOk (P : Program) (f : FuncId) : Callee → Prop
  | .plain fa => FunOk P f fa
  | .lent fa => LentOk P f fa
  | .lbox fa => BoxOk P f fa
  | .hbox fa => HBoxOk P f fa
  | .take fa => TakeOk P f fa
  | .old fa => OldOk P f fa
def OpOk (P : Program) (Λ : List Nat) (B : Nat) (X : Lnt) (w0 : World) (o : Oper) (tmps : Array Value) (ds : List Deferred) (w : World) (st' : St) : Prop :=
  ∀ (K : Act → World → Prop) (Q : Exit → Act → World → Prop), (∀ S' ν' tmps' w', Inv B X w0 S' ν' st' tmps' w' → (growOp Λ o = true → Ext w w') → K ⟨tmps', ds⟩ w') → o.wp P ⟨tmps, ds⟩ w K Q
theorem act_eta (d : Option Tmp) (v : Value) : Act.put ⟨tmps, ds⟩ d v = ⟨(Act.put ⟨tmps, ds⟩ d v).tmps, ds⟩ := by cases d <;> rfl
theorem MemOk.op {o : Oper} (h : MemOk P Λ B X w0 o tmps ds w st') : OpOk P Λ B X w0 o tmps ds w st' := by
  intro K Q hK
  obtain ⟨v, w', S', ν', hrun, hinv, hg⟩ := h
  unfold Oper.wp
  rcases hrun with hrun | ⟨hrun, rfl⟩
  · rw [hrun, Oper.upon_value, act_eta]
    exact hK _ _ _ _ hinv hg
  · rw [hrun, Oper.upon_skip, act_eta]
    exact hK _ _ _ _ hinv hg
theorem arg_okS (h : Inv B X w0 S ν st tmps w) {s : Slot} {v : Value} (hs : SlotRd B X w S ν st.objs s v) {t : Ty} {fr : Bool} {y : t.I} (ha : st.asVal s t = some (fr, y)) {Sc : Nat → Prop} (h1 : ∀ b, Sc b → S b)
    (h2 : ∀ tag, (s = .ref tag ∨ ∃ l f e xs, s = .view tag l f e xs) → (∃ o, olook tag st.objs = some o) → ∀ b, Sc b → (ν tag).ownBlock ≠ some b) (h3 : (s = .lref ∨ ∃ l e xs, s = .lview l e xs) → ∀ b, Sc b → X.v.ownBlock ≠ some b) : RdV w Sc t y v := by
  have weak : ∀ {fr : Bool} {t : Ty} {y : t.I} {v : Value}, RdV w (Av S B fr) t y v → RdV w Sc t y v := fun h => h.keep (Nat.le_refl _) (fun b _ hb => .inl (h1 b hb)) (fun _ _ _ => rfl)
  unfold St.asVal at ha
  split at ha
  · split at ha
    · rename_i y' hy
      cases ha
      exact weak (RdV.cast hy hs)
    · cases ha
  · rename_i b
    split at ha
    · rename_i y' hy
      cases ha
      have hv : v = .bool b := hs
      rw [hv]
      exact RdV.cast hy (bool_val b)
    · cases ha
  · split at ha
    · cases ha
      have hv : v = .slice none 0 0 := hs
      rw [hv]
      exact nil_val
    · cases ha
  · split at ha
    · cases ha
      have hv : v = .nilIface := hs
      rw [hv]
      exact nili_val
    · cases ha
  · split at ha
    · rename_i y' hy
      cases ha
      exact weak (RdV.cast hy (show Slot1Rd B X w S ν st.objs (.nn _ _ _) v from hs).1)
    · cases ha
  · rename_i tag
    split at ha
    · rename_i o ho
      split at ha
      · rename_i y' hy
        cases ha
        obtain ⟨e1, e2⟩ := ref_val h hs ho
        rw [e1]
        exact RdV.cast hy (e2.val fun b _ hb => ⟨.inl (h1 b hb), h2 tag (.inl rfl) ⟨o, ho⟩ b hb⟩)
      · cases ha
    · cases ha
  · rename_i g l fr' e xs
    split at ha
    · rename_i y' hy
      cases ha
      have hv : Slot1Rd B X w S ν st.objs (.view g l fr e xs) v := hs
      exact (RdV.cast hy hv.2.1).keep (Nat.le_refl _) (fun b _ hb => ⟨h1 b hb, h2 g (.inr ⟨_, _, _, _, rfl⟩) hv.1 b hb⟩) (fun _ _ _ => rfl)
    · cases ha
  · split at ha
    · rename_i o ho
      split at ha
      · rename_i y' hy
        cases ha
        have hv : v = X.v := hs
        rw [hv]
        exact RdV.cast hy ((h.win o ho).val (fun b hb => h.lt b (h.lx b hb).1) (fun b _ hb => ⟨.inl (h1 b hb), h3 (.inl rfl) b hb⟩))
      · cases ha
    · cases ha
  · rename_i l e xs
    split at ha
    · rename_i y' hy
      cases ha
      have hv : Slot1Rd B X w S ν st.objs (.lview l e xs) v := hs
      exact (RdV.cast hy hv.1).keep (Nat.le_refl _) (fun b _ hb => ⟨h1 b hb, h3 (.inr ⟨_, _, _, rfl⟩) b hb⟩) (fun _ _ _ => rfl)
    · cases ha
  · cases ha
theorem arg_ok (h : Inv B X w0 S ν st tmps w) {s : Slot} {v : Value} (hs : SlotRd B X w S ν st.objs s v) {t : Ty} {fr : Bool} {y : t.I} (ha : st.asVal s t = some (fr, y)) : RdV w (fun _ => False) t y v :=
  arg_okS h hs ha (fun _ h => h.elim) (fun _ _ _ _ h => h.elim) (fun _ _ h => h.elim)
theorem evArg1_ok (h : Inv B X w0 S ν st tmps w) {s : Slot} {v : Value} (hs : SlotRd B X w S ν st.objs s v) {t : Ty} {y : t.I} (ha : evArg1 st s t = some y) : RdV w (fun _ => False) t y v := by
  unfold evArg1 at ha
  split at ha
  · rename_i tag u sn q
    have hs : Slot1Rd B X w S ν st.objs (.eptr tag 0 [] u sn) v := hs
    split at ha
    · rename_i o ho
      split at ha
      · rename_i x hx
        obtain ⟨o1, b, n, cap, el, p1, p2, p3, p4, p5, _⟩ := hs
        rw [ho] at p1
        have e1 := Option.some.inj p1
        subst e1
        have hb0 : (ν tag).ownBlock = some b := by rw [p2]; rfl
        have hlt := h.lt b (h.own tag o b ho hb0)
        have hel : el = x := by
          rw [hx] at p5
          exact (Option.some.inj p5).symm
        subst hel
        obtain ⟨cs, hown2, hrow⟩ := h.obj tag o ho
        have hcells := @World.ownsRow.cells _ _ _ _ _ _ _ hown2
        obtain ⟨us, k1, k2⟩ := hrow 0 el p5
        have k1' : Rd w (fun _ => False) o.e el us := k1.keep (Nat.le_refl _) (fun _ _ h => h.elim) (fun _ _ _ => rfl)
        have key : RdV w (fun _ => False) (.ptr o.e) el v := by
          refine ⟨[.pointer (some ⟨b, 0, none⟩)], ?_, ?_⟩
          · unfold Rd
            exact ⟨⟨b, 0, none⟩, rfl, fun h => h, hlt, us, k1', fun j z hj => by
              have := hcells hb0 _ _ (k2 j z hj)
              simpa using this⟩
          · rw [p4, offAt_nil]
            simp [mkV]
        unfold Ty.cast at ha
        split at ha
        · rename_i e
          subst e
          cases ha
          exact key
        · cases ha
      · cases ha
    · cases ha
  · rename_i fr u x q
    have hs : Slot1Rd B X w S ν st.objs (.cptr fr u x) v := hs
    obtain ⟨ad, rfl, _, hlt, us, k1, k2⟩ := hs
    have k1' : Rd w (fun _ => False) u x us := k1.keep (Nat.le_refl _) (fun _ _ h => h.elim) (fun _ _ _ => rfl)
    have key : RdV w (fun _ => False) (.ptr u) x (.pointer (some ad)) := by
      refine ⟨[.pointer (some ad)], ?_, rfl⟩
      unfold Rd
      exact ⟨ad, rfl, fun h => h, hlt, us, k1', k2⟩
    unfold Ty.cast at ha
    split at ha
    · rename_i e
      subst e
      cases ha
      exact key
    · cases ha
  · split at ha
    · rename_i fr y' hy
      cases ha
      exact arg_ok h hs hy
    · cases ha
theorem evArgs_ok (h : Inv B X w0 S ν st tmps w) : ∀ {ps : List Ty} {args : List Operand} {x : Tys.I ps}, evArgs st ps args = some x → ArgsRd w ps x (args.map (⟨tmps, ds⟩ : Act).eval)
  | [], [], _, _ => rfl
  | [], _ :: _, _, h => by cases h
  | _ :: _, [], _, h => by cases h
  | t :: r, o :: os, x, hr => by
    unfold evArgs at hr
    split at hr
    · rename_i s hs
      split at hr
      · rename_i y z hy hz
        cases hr
        exact ⟨_, _, rfl, evArg1_ok h (opd_ok (ds := ds) h hs) hy, evArgs_ok h hz⟩
      · cases hr
    · cases hr
theorem RetOne.lt {r : RTy} {x : r.I} {v : Value} (h : RetOne B w S r x v) : ∀ b, v.ownBlock = some b → (∃ eid e, r = .row eid e) → B ≤ b ∧ b < w.heap.size := by
  rintro b hb ⟨eid, e, rfl⟩
  obtain ⟨⟨cs, h1, _⟩, h2⟩ := h
  exact ⟨h2 b hb, (h1.lt b hb).2⟩
theorem RetList.lt : ∀ {rs : List RTy} {x : RTys.I rs} {vs : List Value}, RetList B w S rs x vs → ∀ b ∈ rowBlocks rs vs, B ≤ b ∧ b < w.heap.size
  | [], _, vs, h, b, hb => by
    cases vs <;> cases hb
  | [.v t], x, vs, h, b, hb => by
    obtain ⟨v, rfl, _⟩ := h
    cases hb
  | [.row eid e], x, vs, h, b, hb => by
    obtain ⟨v, rfl, h1⟩ := h
    unfold rowBlocks at hb
    rcases List.mem_append.1 hb with hb | hb
    · split at hb
      · rename_i b' hb'
        rw [List.mem_singleton] at hb
        subst hb
        exact h1.lt _ hb' ⟨_, _, rfl⟩
      · cases hb
    · cases hb
  | .v t :: s :: q, x, vs, h, b, hb => by
    obtain ⟨v, us, rfl, _, h2⟩ := h
    unfold rowBlocks at hb
    exact RetList.lt h2 b hb
  | .row eid e :: s :: q, x, vs, h, b, hb => by
    obtain ⟨v, us, rfl, h1, h2⟩ := h
    unfold rowBlocks at hb
    rcases List.mem_append.1 hb with hb | hb
    · split at hb
      · rename_i b' hb'
        rw [List.mem_singleton] at hb
        subst hb
        exact h1.lt _ hb' ⟨_, _, rfl⟩
      · cases hb
    · exact RetList.lt h2 b hb
theorem ret_own {S1 : Nat → Prop} {B' : Nat} {v : Value} {o : Obj} (hBB : B ≤ B') (hS : ∀ b, S1 b → S b ∨ b < B') (h : ObjRd B' w S v o) (hf : o.fr = true) : ObjRd B w S1 v o := by
  obtain ⟨cs, ⟨h1, h2⟩, h3⟩ := h
  refine ⟨cs, ⟨h1, ?_⟩, h3.keep (Nat.le_refl _) (fun b _ hb => ?_) (fun _ _ _ => rfl)⟩
  · rcases h2 with h2 | ⟨g, cap, cur, k1, k2, k3⟩
    · exact .inl h2
    · exact .inr ⟨g, cap, cur, k1, k2, k3⟩
  · rcases hb with hb | ⟨_, hb⟩
    · exact (hS b hb).imp id (fun h => ⟨hf, h⟩)
    · exact .inr ⟨hf, by omega⟩
theorem val_own {S1 : Nat → Prop} {B' : Nat} {t : Ty} {x : t.I} {v : Value} (hBB : B ≤ B') (hS : ∀ b, S1 b → S b ∨ b < B') (h : RdV w (Av S B' true) t x v) : RdV w (Av S1 B true) t x v :=
  h.keep (Nat.le_refl _) (fun b _ hb => by
    rcases hb with hb | ⟨_, hb⟩
    · exact (hS b hb).imp id (fun h => ⟨rfl, h⟩)
    · exact .inr ⟨rfl, by omega⟩) (fun _ _ _ => rfl)
theorem retSlots_ok {B' : Nat} {Sr : Nat → Prop} (hBB : B ≤ B') (hS : ∀ b, S b → Sr b ∨ b < B') : ∀ {rs : List RTy} {x : RTys.I rs} {vs : List Value} {tag : Nat} {st st' : St} {ν : Nat → Value} {ss : List Slot},
    Inv B X w0 S ν st tmps w → RetList B' w Sr rs x vs → (∀ b ∈ rowBlocks rs vs, S b ∧ ∀ g p, olook g st.objs = some p → (ν g).ownBlock ≠ some b) → (rowBlocks rs vs).Nodup → retSlots tag st rs x = (st', ss) →
    ∃ ν', Inv B X w0 S ν' st' tmps w ∧ vs.length = ss.length ∧ (∀ (i : Nat) (s : Slot), ss[i]? = some s → ∃ u, vs[i]? = some u ∧ Slot1Rd B X w S ν' st'.objs s u) ∧ ∀ g, g < tag → ν' g = ν g ∧ olook g st'.objs = olook g st.objs := by
  intro rs
  -- one result
  have one : ∀ {r : RTy} {x : r.I} {v : Value} {tag : Nat} {st st1 : St} {ν : Nat → Value} {s : Slot}, Inv B X w0 S ν st tmps w → RetOne B' w Sr r x v → (∀ b, v.ownBlock = some b → (∃ eid e, r = .row eid e) → S b ∧ ∀ g p, olook g st.objs = some p → (ν g).ownBlock ≠ some b) →
      retSlot tag st r x = (st1, s) → ∃ ν1, Inv B X w0 S ν1 st1 tmps w ∧ Slot1Rd B X w S ν1 st1.objs s v ∧ (∀ g, g < tag → ν1 g = ν g ∧ olook g st1.objs = olook g st.objs) ∧
        (∀ g p, olook g st1.objs = some p → (∃ q, olook g st.objs = some q ∧ ν1 g = ν g) ∨ (g = tag ∧ ν1 g = v ∧ ∃ eid e, r = .row eid e)) ∧ (∀ g, s = .ref g → g = tag) ∧ (∀ a b c d e, s ≠ .eptr a b c d e) ∧ (∀ a b c d e, s ≠ .view a b c d e) ∧ ∀ a b c, s ≠ .hv a b c := by
    intro r x v tag st st1 ν s h hr hb he
    cases r with
    | v t =>
      cases he
      exact ⟨ν, h, val_own hBB hS hr, fun _ _ => ⟨rfl, rfl⟩, fun g p hp => .inl ⟨p, hp, rfl⟩, (fun g e => by cases e), (fun a b c d e h => by cases h), (fun a b c d e h => by cases h), (fun a b c h => by cases h)⟩
    | row eid e =>
      cases he
      have ho : ObjRd B w S v ⟨eid, true, e, x⟩ := ret_own hBB hS hr.1 rfl
      refine ⟨_, h.adopt tag ho (fun b h' => (hb b h' ⟨_, _, rfl⟩).1) (fun g p b _ hp hgb h' => (hb b h' ⟨_, _, rfl⟩).2 g p hp hgb) (fun b h' => .inl (Nat.le_trans hBB (hr.2 b h'))), ⟨upd_same.symm, _, look_new⟩, fun g hg => ⟨upd_ne (by omega), ?_⟩, fun g p hp => ?_, (fun g e => by cases e; rfl), (fun a b c d e h => by cases h), (fun a b c d e h => by cases h), (fun a b c h => by cases h)⟩
      · show olook g ((tag, _) :: odrop tag st.objs) = _
        rw [olook_cons, if_neg (by omega), olook_drop_ne (by omega)]
      · rcases olook_new hp with ⟨rfl, rfl⟩ | ⟨hne, hp⟩
        · exact .inr ⟨rfl, upd_same, _, _, rfl⟩
        · exact .inl ⟨p, hp, upd_ne hne⟩
  induction rs with
  | nil =>
    intro x vs tag st st' ν ss h hr _ _ he
    cases he
    have hr : vs = [] := hr
    subst hr
    exact ⟨ν, h, rfl, fun i s hs => by simp at hs, fun _ _ => ⟨rfl, rfl⟩⟩
  | cons r q ih =>
    intro x vs tag st st' ν ss h hr hb hn he
    cases q with
    | nil =>
      obtain ⟨v, rfl, h1⟩ := hr
      unfold retSlots at he
      cases hs : retSlot tag st r x with
      | mk st1 s =>
        rw [hs] at he
        cases he
        obtain ⟨ν1, k1, k2, k3, _⟩ := one h h1 (fun b hvb ⟨eid, e, hre⟩ => hb b (by subst hre; unfold rowBlocks; rw [hvb]; simp)) hs
        refine ⟨ν1, k1, rfl, fun i u hu => ?_, k3⟩
        cases i with
        | zero => cases hu; exact ⟨v, rfl, k2⟩
        | succ i => simp at hu
    | cons s2 q =>
      obtain ⟨v, us, rfl, h1, h2⟩ := hr
      unfold retSlots at he
      cases hs : retSlot tag st r x.1 with
      | mk st1 s =>
        rw [hs] at he
        dsimp only at he
        cases hs2 : retSlots (tag + 1) st1 (s2 :: q) x.2 with
        | mk st2 ss2 =>
          rw [hs2] at he
          cases he
          have hsub : ∀ b ∈ rowBlocks (s2 :: q) us, b ∈ rowBlocks (r :: s2 :: q) (v :: us) := by
            intro b hb2
            cases r <;> simp only [rowBlocks]
            · exact hb2
            · exact List.mem_append.2 (.inr hb2)
          obtain ⟨ν1, k1, k2, k3, k4, k5, k6, k7, k8⟩ := one h h1 (fun b hvb ⟨eid, e, hre⟩ => hb b (by subst hre; simp only [rowBlocks]; rw [hvb]; simp)) hs
          have hn2 : (rowBlocks (s2 :: q) us).Nodup := by
            cases r <;> simp only [rowBlocks] at hn
            · exact hn
            · exact (List.nodup_append.1 hn).2.1
          obtain ⟨ν2, m1, m2, m3, m4⟩ := ih k1 h2 (fun b hb2 => ⟨(hb b (hsub b hb2)).1, fun g p hp hgb => by
            rcases k4 g p hp with ⟨p0, e1, e2⟩ | ⟨rfl, e2, eid, e, hre⟩
            · rw [e2] at hgb
              exact (hb b (hsub b hb2)).2 g p0 e1 hgb
            · rw [e2] at hgb
              subst hre
              simp only [rowBlocks, hgb] at hn
              exact (List.nodup_append.1 hn).2.2 b (by simp) b hb2 rfl⟩) hn2 hs2
          refine ⟨ν2, m1, by simp [m2], fun i u hu => ?_, fun g hg => ?_⟩
          · cases i with
            | zero =>
              cases hu
              refine ⟨v, rfl, Slot1Rd.mono (World.grownBy.refl w none) (fun b _ h => h) k2 (fun g hg => ?_) (.inl k8)⟩
              rcases hg with ⟨t, hg | ⟨a, b, c, d, hg⟩ | ⟨⟨a, b, c, d, hg⟩, _⟩⟩
              · have e := k5 g hg
                have := m4 g (by omega)
                exact ⟨this.2, this.1⟩
              · exact absurd hg (k6 _ _ _ _ _)
              · exact absurd hg (k7 _ _ _ _ _)
            | succ i => exact m3 i u (by simpa using hu)
          · obtain ⟨e1, e2⟩ := k3 g hg
            obtain ⟨e3, e4⟩ := m4 g (by omega)
            exact ⟨e3.trans e1, e4.trans e2⟩
theorem run_callFunc {f : FuncId} {args : Array Value} {fn : Func} {c : Code} (h1 : P.funcs[f]? = some fn) (h2 : (fn.name == "runtime.NumGoroutine") = false) (h3 : fn.body = some c) (w' : World) : (callFunc f args).run P w' = .ok (.enter f args) w' := by
  have h2' : fn.name ≠ "runtime.NumGoroutine" := by simpa using h2
  simp [callFunc, h1, h2', h3]
theorem evResult_ok {rs : List RTy} {vs : List Value} {B' : Nat} (hbase : B ≤ B') {d : Option Tmp} {r : RTys.I rs} {v : Value} (h1 : Inv B X w0 (fun b => S b ∨ b ∈ rowBlocks rs vs) ν st tmps w) (hv : v = retV rs vs)
    (hnd : (rowBlocks rs vs).Nodup) (hl : RetList B' w (· ∈ rowBlocks rs vs) rs r vs) (hS : ∀ b, (S b ∨ b ∈ rowBlocks rs vs) → b ∈ rowBlocks rs vs ∨ b < B') (hfresh : ∀ b ∈ rowBlocks rs vs, (S b ∨ b ∈ rowBlocks rs vs) ∧ ∀ g p, olook g st.objs = some p → (ν g).ownBlock ≠ some b)
    (hr : (evResult st d rs r).run = some st') : ∃ ν', Inv B X w0 (fun b => S b ∨ b ∈ rowBlocks rs vs) ν' st' (Act.put ⟨tmps, ds⟩ d v).tmps w := by
  match rs, r, hr, hv, hnd, hl, h1, hS, hfresh with
  | [.v t], r, hr, hv, _, hl, h1, hS, _ =>
    cases d with
    | none => cases hr
    | some d =>
      cases hr
      obtain ⟨u, rfl, hu⟩ := hl
      cases hv
      exact ⟨_, h1.set (s := .val true t r) (val_own hbase hS hu) d⟩
  | [.row eid e], r, hr, hv, hnd, hl, h1, hS, hfresh =>
    cases d with
    | none => cases hr
    | some d =>
      cases hr
      obtain ⟨u, rfl, hu⟩ := hl
      cases hv
      have hblk : ∀ b, u.ownBlock = some b → b ∈ rowBlocks [.row eid e] [u] := fun b hb => by simp [rowBlocks, hb]
      have h2 := h1.adopt d (ret_own hbase hS hu.1 rfl) (fun b hb => .inr (hblk b hb)) (fun g p b _ hp hgb h' => (hfresh b (hblk b h')).2 g p hp hgb) (fun b h' => .inl (Nat.le_trans hbase (hu.2 b h')))
      have h3 := set_ref h2 (tag := d) look_new d
      rw [upd_same] at h3
      exact ⟨_, h3⟩
  | [], r, hr, hv, hnd, hl, h1, hS, hfresh =>
    cases hr
    subst hv
    have hl : vs = [] := hl
    subst hl
    exact ⟨_, h1.put (s := .tup []) ⟨#[], rfl, rfl, fun i s hs => by simp at hs⟩ d ds⟩
  | r1 :: r2 :: q, r, hr, hv, hnd, hl, h1, hS, hfresh =>
    cases d with
    | none => cases r1 <;> cases hr
    | some d =>
      have hr' : (match retSlots (1000 * (d + 1)) st (r1 :: r2 :: q) r with | (st, ss) => (Tr.pure (st.set d (.tup ss)) : Tr St)).run = some st' := by
        cases r1 <;> exact hr
      cases hs : retSlots (1000 * (d + 1)) st (r1 :: r2 :: q) r with
      | mk st1 ss =>
        rw [hs] at hr'
        cases hr'
        obtain ⟨ν1, k1, k2, k3, _⟩ := retSlots_ok hbase hS h1 hl hfresh hnd hs
        subst hv
        exact ⟨_, k1.set (s := .tup ss) ⟨vs.toArray, rfl, by simpa using k2, fun i s hs => by
          obtain ⟨u, e1, e2⟩ := k3 i s hs
          exact ⟨u, by simpa using e1, e2⟩⟩ d⟩
theorem behind (h : Inv B X w0 S ν st tmps w) {rs : List RTy} {r : RTys.I rs} {v : Value} {d : Option Tmp} (hb : Below w.heap.size w w') (hret : RetRd w.heap.size w' rs r v) (hr : (evResult st d rs r).run = some st') :
    ∃ S' ν', Inv B X w0 S' ν' st' (Act.put ⟨tmps, ds⟩ d v).tmps w' := by
  obtain ⟨vs, hv, hnd, hl⟩ := hret
  have hlt := hl.lt
  have hbase : B ≤ w.heap.size := Nat.le_trans h.base.1 h.fr.size
  have h1 : Inv B X w0 (fun b => S b ∨ b ∈ rowBlocks rs vs) ν st tmps w' :=
    h.widen (grown_below hb) (fun b hb => .inl hb) (fun b hb => hb.imp id fun hb => (hlt b hb).1) (fun b hb' => hb'.elim (fun hb' => Nat.lt_of_lt_of_le (h.lt b hb') hb.size) fun hb' => (hlt b hb').2)
  have hS : ∀ b, (S b ∨ b ∈ rowBlocks rs vs) → b ∈ rowBlocks rs vs ∨ b < w.heap.size := fun b hb => hb.elim (fun hb => .inr (h.lt b hb)) .inl
  have hfresh : ∀ b ∈ rowBlocks rs vs, (S b ∨ b ∈ rowBlocks rs vs) ∧ ∀ g p, olook g st.objs = some p → (ν g).ownBlock ≠ some b := by
    intro b hb'
    refine ⟨.inr hb', fun g p hp hgb => ?_⟩
    obtain ⟨cs, k1, _⟩ := h.obj g p hp
    have := (k1.lt b hgb).2
    have := (hlt b hb').1
    omega
  obtain ⟨ν', h2⟩ := evResult_ok (ds := ds) hbase h1 hv hnd hl hS hfresh hr
  exact ⟨_, ν', h2⟩
theorem WinRd.flat {o : Obj} (hf : o.e.flat = true) (h : WinRd w S X o) : WinRd w S' X o :=
  let ⟨cs, h1, h2, h3⟩ := h; ⟨cs, h1, h2.flat hf, h3⟩
theorem WinRd.weak {o : Obj} (h : WinRd w S X o) (hS : ∀ b, S' b → S b) : WinRd w S' X o :=
  let ⟨cs, h1, h2, h3⟩ := h; ⟨cs, h1, h2.keep (Nat.le_refl _) (fun b _ hb => hS b hb) (fun _ _ _ => rfl), h3⟩
theorem restored {b : Nat} {X' : Lnt} (hK : Kept w.heap.size X' w w') (hM : ∀ c, ¬ X'.more c) (hX : X'.v.ownBlock = some b) : ∃ w1 : World, w.grownBy w1 none ∧ w1.grownBy w' (some b) ∧ w1.heap.size = w'.heap.size ∧ w1.heap[b]? = w.heap[b]? := by
  obtain ⟨cur, cur', eid, g1, g2, g3, _⟩ := hK.win b hX
  have hb := setRow_heap w' b cur' cur eid (0, 0) g2
  refine ⟨w'.setRow b cur, ⟨hK.os, hK.tape, hK.output, by simpa using hK.size, fun k hk _ => ?_⟩, ⟨rfl, rfl, rfl, by simp, fun k _ hne => (setRow_other w' b k _ (fun e => hne (by rw [e]))).symm⟩, by simp, by rw [hb, g1]⟩
  by_cases e : k = b
  · rw [e, hb, g1]
  · rw [setRow_other w' b k _ e]
    exact hK.block k hk (fun h => e (by rw [hX] at h; cases h; rfl)) (hM k)
theorem behind_own (h : Inv B X w0 S ν st tmps w) {tag : Nat} {o o' : Obj} {X' : Lnt} (ho : olook tag st.objs = some o) (hX : X'.v.ownBlock = (ν tag).ownBlock) (hM : ∀ c, ¬ X'.more c) (hK : Kept w.heap.size X' w w') {rs : List RTy} {r : RTys.I rs} {v : Value} {vs : List Value} {d : Option Tmp} (hret : RetOf w.heap.size w' rs r v vs)
    (hobj : ObjRd B w' (fun b => S b ∨ b ∈ rowBlocks rs vs) (ν tag) o') (he : o'.e = o.e) (hl : o'.xs.length = o.xs.length) (hr : (evResult (st.turn tag o') d rs r).run = some st') :
    ∃ S' ν', Inv B X w0 S' ν' st' (Act.put ⟨tmps, ds⟩ d v).tmps w' := by
  obtain ⟨hv, hnd, hlist⟩ := hret
  have hlt := hlist.lt
  have hbase : B ≤ w.heap.size := Nat.le_trans h.base.1 h.fr.size
  have hS : ∀ b, (S b ∨ b ∈ rowBlocks rs vs) → b ∈ rowBlocks rs vs ∨ b < w.heap.size := fun b hb => hb.elim (fun hb => .inr (h.lt b hb)) .inl
  have hfresh : ∀ b ∈ rowBlocks rs vs, (S b ∨ b ∈ rowBlocks rs vs) ∧ ∀ g p, olook g (st.turn tag o').objs = some p → (ν g).ownBlock ≠ some b := by
    intro b hb'
    refine ⟨.inr hb', fun g p hp hgb => ?_⟩
    have hp' : ∃ q, olook g st.objs = some q := by
      rcases olook_new hp with ⟨rfl, _⟩ | ⟨_, hp⟩
      · exact ⟨o, ho⟩
      · exact ⟨p, hp⟩
    obtain ⟨q, hq⟩ := hp'
    obtain ⟨cs, k1, _⟩ := h.obj g q hq
    have := (k1.lt b hgb).2
    have := (hlt b hb').1
    omega
  have h2 : Inv B X w0 (fun b => S b ∨ b ∈ rowBlocks rs vs) ν (st.turn tag o') tmps w' := by
    cases hb : (ν tag).ownBlock with
    | none =>
      have hg : w.grownBy w' none := ⟨hK.os, hK.tape, hK.output, hK.size, fun k hk _ => hK.block k hk (by rw [hX, hb]; simp) (hM k)⟩
      have h1 : Inv B X w0 (fun b => S b ∨ b ∈ rowBlocks rs vs) ν st tmps w' :=
        h.widen hg (fun b hb => .inl hb) (fun b hb => hb.imp id fun hb => (hlt b hb).1) (fun b hb' => hb'.elim (fun hb' => Nat.lt_of_lt_of_le (h.lt b hb') hg.size) fun hb' => (hlt b hb').2)
      exact h1.turn ho he hl (World.grownBy.refl w' none) (fun b hb => by cases hb) hobj
    | some b =>
      obtain ⟨w1, g1, g2, g3, _⟩ := restored hK hM (hX.trans hb)
      have h1 : Inv B X w0 (fun b => S b ∨ b ∈ rowBlocks rs vs) ν st tmps w1 :=
        h.widen g1 (fun b hb => .inl hb) (fun b hb => hb.imp id fun hb => (hlt b hb).1) (fun b hb' => hb'.elim (fun hb' => Nat.lt_of_lt_of_le (h.lt b hb') g1.size) fun hb' => by rw [g3]; exact (hlt b hb').2)
      exact h1.turn ho he hl g2 (fun b' hb' => by cases hb'; exact hb) hobj
  obtain ⟨ν', h3⟩ := evResult_ok (ds := ds) hbase h2 hv hnd hlist hS hfresh hr
  exact ⟨_, ν', h3⟩
theorem Inv.turnL0 (h : Inv B X w0 S ν st tmps w) {o : Obj} (ho : WinRd w (Av S B false) X o) : Inv B X w0 S ν (st.turnL o) tmps w := by
  refine ⟨h.fr, h.base, by simpa [St.turnL] using h.len, fun i s hi => ?_, h.obj, h.own, h.lt, fun o ho' => by cases ho'; exact ho, h.lx2, h.lm, h.nw, fun q hq => h.hole q (mem_dropB hq).1, h.sep⟩
  simp only [St.turnL, List.getElem?_map] at hi
  cases hu : st.env[i]? with
  | none => rw [hu] at hi; cases hi
  | some u =>
    rw [hu] at hi
    cases hi
    obtain ⟨x, hx, hrd⟩ := h.slot i u hu
    refine ⟨x, hx, SlotRd.map (f1 := Slot.staleL1) (fun _ => rfl) (fun s hs => ?_) (fun s _ ss => staleL1_tup s ss) (fun s v hsv => ?_) hrd⟩
    · cases s <;> first | rfl | exact absurd rfl (hs _)
    · cases s <;> first | exact hsv | trivial
theorem behind_lent (h : Inv B X w0 S ν st tmps w) {o' : Obj} {X' : Lnt} (hX : X'.v.ownBlock = X.v.ownBlock) (hM : ∀ c, ¬ X'.more c) (hK : Kept w.heap.size X' w w') {rs : List RTy} {r : RTys.I rs} {v : Value} {vs : List Value} {d : Option Tmp} (hret : RetOf w.heap.size w' rs r v vs)
    (hwin : WinRd w' (Av (fun b => S b ∨ b ∈ rowBlocks rs vs) B false) X o')
    (hout : ∀ b, X.v.ownBlock = some b → ∃ cur cur' eid, w.heap[b]? = some (.cells cur eid (0, 0)) ∧ w'.heap[b]? = some (.cells cur' eid (0, 0)) ∧ cur'.size = cur.size ∧ ∀ j : Nat, (j < X.k ∨ X.k + X.n ≤ j) → cur'[j]? = cur[j]?)
    (hr : (evResult (st.turnL o') d rs r).run = some st') : ∃ S' ν', Inv B X w0 S' ν' st' (Act.put ⟨tmps, ds⟩ d v).tmps w' := by
  obtain ⟨hv, hnd, hlist⟩ := hret
  have hlt := hlist.lt
  have hbase : B ≤ w.heap.size := Nat.le_trans h.base.1 h.fr.size
  have hS : ∀ b, (S b ∨ b ∈ rowBlocks rs vs) → b ∈ rowBlocks rs vs ∨ b < w.heap.size := fun b hb => hb.elim (fun hb => .inr (h.lt b hb)) .inl
  have hfresh : ∀ b ∈ rowBlocks rs vs, (S b ∨ b ∈ rowBlocks rs vs) ∧ ∀ g p, olook g (st.turnL o').objs = some p → (ν g).ownBlock ≠ some b := by
    intro b hb'
    refine ⟨.inr hb', fun g p hp hgb => ?_⟩
    obtain ⟨cs, k1, _⟩ := h.obj g p hp
    have := (k1.lt b hgb).2
    have := (hlt b hb').1
    omega
  have h3 : Inv B X w0 (fun b => S b ∨ b ∈ rowBlocks rs vs) ν (st.turnL o') tmps w' := by
    cases hb : X.v.ownBlock with
    | some b' =>
      obtain ⟨w1, g1, g2, g3, g4⟩ := restored hK hM (hX.trans hb)
      have h1 : Inv B X w0 (fun b => S b ∨ b ∈ rowBlocks rs vs) ν st tmps w1 :=
        h.widen g1 (fun b hb => .inl hb) (fun b hb => hb.imp id fun hb => (hlt b hb).1) (fun b hb' => hb'.elim (fun hb' => Nat.lt_of_lt_of_le (h.lt b hb') g1.size) fun hb' => by rw [g3]; exact (hlt b hb').2)
      obtain ⟨cur, cur', eid, c1, c2, c3, c4⟩ := hout b' hb
      refine h1.turnL hb g2 ⟨g2.os, g2.tape, g2.output, g2.size, fun k hk hn _ => g2.block k (by have := g1.size; omega) (fun e => hn (by cases e; exact hb)), fun q hq => ?_⟩ hwin
      rw [hb] at hq
      cases hq
      exact ⟨cur, cur', eid, g4.trans c1, c2, c3, c4⟩
    | none =>
      have hg : w.grownBy w' none := ⟨hK.os, hK.tape, hK.output, hK.size, fun k hk _ => hK.block k hk (by rw [hX, hb]; simp) (hM k)⟩
      have h1 : Inv B X w0 (fun b => S b ∨ b ∈ rowBlocks rs vs) ν st tmps w' :=
        h.widen hg (fun b hb => .inl hb) (fun b hb => hb.imp id fun hb => (hlt b hb).1) (fun b hb' => hb'.elim (fun hb' => Nat.lt_of_lt_of_le (h.lt b hb') hg.size) fun hb' => (hlt b hb').2)
      exact h1.turnL0 hwin
  obtain ⟨ν', h4⟩ := evResult_ok (ds := ds) hbase h3 hv hnd hlist hS hfresh hr
  exact ⟨_, ν', h4⟩
def lendBlk (X : Lnt) (ν : Nat → Value) (st : St) : Lend → Nat → Prop
  | .own tag _ _, b => (∃ o, olook tag st.objs = some o) ∧ (ν tag).ownBlock = some b
  | .lent _ _, b => X.v.ownBlock = some b
  | .nil, _ => False
theorem asArg_ok (h : Inv B X w0 S ν st tmps w) {g : Lend} {flat : Bool} {s : Slot} {v : Value} (hs : SlotRd B X w S ν st.objs s v) {t : Ty} {y : t.I} (ha : st.asArg g flat s t = some y) {Sc : Nat → Prop} (hSc : flat = true → ∀ b, Sc b → lendBlk X ν st g b) : RdV w Sc t y v := by
  unfold St.asArg at ha
  split at ha
  · cases ha
  · rename_i hf
    have hf : flat = true ∨ t.flat = true := by
      cases flat <;> cases ht : t.flat <;> simp_all
    rcases hf with hf | hf
    · have hSc := hSc hf
      have h1 : ∀ b, Sc b → S b := by
        intro b hb
        have hl := hSc b hb
        cases g with
        | own tag lo n => obtain ⟨⟨o, ho⟩, hb'⟩ := hl; exact h.own tag o b ho hb'
        | lent lo n => exact (h.lx b hl).1
        | nil => exact hl.elim
      have objX : ∀ tag o b, olook tag st.objs = some o → (ν tag).ownBlock = some b → X.v.ownBlock ≠ some b := by
        intro tag o b ho hb hx
        exact h.notX ho hb hx
      have other : ∀ tag tag' lo n, g = .own tag' lo n → tag ≠ tag' → (∃ o, olook tag st.objs = some o) → ∀ b, Sc b → (ν tag).ownBlock ≠ some b := by
        rintro tag tag' lo n rfl hne ⟨o, ho⟩ b hb hb'
        obtain ⟨⟨o', ho'⟩, hb''⟩ := hSc b hb
        exact hne (h.sep tag tag' o o' b ho ho' hb' hb'')
      have key : ∀ {fr : Bool} {z : t.I}, st.asVal s t = some (fr, z) → (∀ tag, (s = .ref tag ∨ ∃ l f e xs, s = .view tag l f e xs) → ∀ tag' lo n, g = .own tag' lo n → tag ≠ tag') → ((s = .lref ∨ ∃ l e xs, s = .lview l e xs) → ∀ lo n, g ≠ .lent lo n) → RdV w Sc t z v := by
        intro fr z hz hne hnl
        refine arg_okS h hs hz h1 (fun tag hs ho b hb => ?_) (fun hs b hb => ?_)
        · cases g with
          | own tag' lo n => exact other tag tag' lo n rfl (hne tag hs tag' lo n rfl) ho b hb
          | lent lo n => exact fun hb' => by obtain ⟨o, ho⟩ := ho; exact objX tag o b ho hb' (hSc b hb)
          | nil => exact (hSc b hb).elim
        · cases g with
          | own tag' lo n =>
            obtain ⟨⟨o, ho⟩, hb'⟩ := hSc b hb
            exact objX tag' o b ho hb'
          | lent lo n => exact absurd rfl (hnl hs lo n)
          | nil => exact (hSc b hb).elim
      split at ha
      · rename_i tag tag' _ _
        split at ha
        · cases ha
        · rename_i hne
          split at ha
          · rename_i fr z hz
            cases ha
            refine key hz (fun tg hs tg' lo n hg => ?_) (fun hs => ?_)
            · rcases hs with hs | ⟨_, _, _, _, hs⟩ <;> cases hs
              cases hg
              intro e; exact hne (nbeq.2 e)
            · rcases hs with hs | ⟨_, _, _, hs⟩ <;> cases hs
          · cases ha
      · rename_i tag _ _ _ _ tag' _ _
        split at ha
        · cases ha
        · rename_i hne
          split at ha
          · rename_i fr z hz
            cases ha
            refine key hz (fun tg hs tg' lo n hg => ?_) (fun hs => ?_)
            · rcases hs with hs | ⟨_, _, _, _, hs⟩ <;> cases hs
              cases hg
              intro e; exact hne (nbeq.2 e)
            · rcases hs with hs | ⟨_, _, _, hs⟩ <;> cases hs
          · cases ha
      · cases ha
      · cases ha
      · rename_i n1 n2 n3 n4
        split at ha
        · rename_i fr z hz
          cases ha
          refine key hz (fun tg hs tg' lo n hg => ?_) (fun hs lo n hg => ?_)
          · subst hg
            rcases hs with hs | ⟨_, _, _, _, hs⟩
            · exact absurd rfl (n1 _ _ _ _ hs)
            · exact absurd rfl (n2 _ _ _ _ _ _ _ _ hs)
          · subst hg
            rcases hs with hs | ⟨_, _, _, hs⟩
            · exact absurd rfl (n3 _ _ hs)
            · exact absurd rfl (n4 _ _ _ _ _ hs)
        · cases ha
    · have : ∃ fr z, st.asVal s t = some (fr, z) ∧ z = y := by
        split at ha
        · split at ha
          · cases ha
          · split at ha
            · rename_i fr z hz; cases ha; exact ⟨fr, _, hz, rfl⟩
            · cases ha
        · split at ha
          · cases ha
          · split at ha
            · rename_i fr z hz; cases ha; exact ⟨fr, _, hz, rfl⟩
            · cases ha
        · cases ha
        · cases ha
        · split at ha
          · rename_i fr z hz; cases ha; exact ⟨fr, _, hz, rfl⟩
          · cases ha
      obtain ⟨fr, z, hz, rfl⟩ := this
      exact (arg_ok h hs hz).flat hf
theorem evArgsL_ok (h : Inv B X w0 S ν st tmps w) {g : Lend} {flat : Bool} {Sc : Nat → Prop} (hSc : flat = true → ∀ b, Sc b → lendBlk X ν st g b) : ∀ {ps : List Ty} {args : List Operand} {x : Tys.I ps}, evArgsL st g flat ps args = some x → ArgsRdS w Sc ps x (args.map (⟨tmps, ds⟩ : Act).eval)
  | [], [], _, _ => rfl
  | [], _ :: _, _, h => by cases h
  | _ :: _, [], _, h => by cases h
  | t :: r, o :: os, x, hr => by
    unfold evArgsL at hr
    split at hr
    · rename_i s hs
      split at hr
      · rename_i y z hy hz
        cases hr
        exact ⟨_, _, rfl, asArg_ok h (opd_ok (ds := ds) h hs) hy hSc, evArgsL_ok h hSc hz⟩
      · cases hr
    · cases hr
end Go.Proofs.YtnldcpanpojeiaaGreatDoor
