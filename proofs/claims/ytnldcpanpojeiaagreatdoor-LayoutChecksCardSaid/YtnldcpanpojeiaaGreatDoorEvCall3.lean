/-
  Calls, all kinds of them.
-/
import Derived.Test.YtnldcpanpojeiaaGreatDoorEvHole2
namespace Go.Proofs.YtnldcpanpojeiaaGreatDoor
open Go.RowKit
variable {P : Program} {Λ : List Nat} {G : Ctx} {A : Ann} {T : FuncId → Option Callee} {B : Nat} {X : Lnt} {w0 w w' : World} {S S' : Nat → Prop} {ν : Nat → Value} {st st' : St} {tmps : Array Value} {ds : List Deferred}
theorem splice'_set {α : Type} {xs : List α} {i : Nat} (h : i < xs.length) (z : α) : splice' xs i 1 [z] = xs.set i z := by
  apply List.ext_getElem?
  intro j
  rw [List.getElem?_set]
  by_cases e : i = j
  · subst e
    rw [if_pos rfl, if_pos h]
    exact splice'_in (j := 0) (by omega) rfl (by omega)
  · rw [if_neg e]
    exact splice'_out (by omega) rfl (by omega)
theorem drop_one {α : Type} {xs : List α} {i : Nat} {x : α} (h : xs[i]? = some x) : (xs.drop i).take 1 = [x] := by
  apply List.ext_getElem?
  intro j
  rw [List.getElem?_take]
  cases j with
  | zero => simp [List.getElem?_drop, h]
  | succ j => simp
theorem cast_refl {t : Ty} (x : t.I) : Ty.cast t t x = some x := by simp [Ty.cast]
theorem splice'_all {α : Type} (xs ys : List α) : splice' xs 0 xs.length ys = ys := by simp [splice']
theorem back_at {s : Slot} {eid : TypeId} {e : Ty} {g : Lend} {xs ys : List e.I} (hl : st.lend s eid e = some (g, xs)) : st.backAt s g e ys = st.back g e ys := by
  unfold St.lend at hl
  split at hl
  · cases hl; rfl
  · rename_i tag
    split at hl
    · rename_i o ho
      split at hl
      · split at hl
        · rename_i xs' hc
          obtain ⟨eid', fr, e', xs0⟩ := o
          have he := cast_self hc
          cases he
          have := cast_same hc
          subst this
          cases hl
          simp only [St.backAt, St.back, ho]
          rw [cast_refl]
          dsimp only
          rw [splice'_all]
        · cases hl
      · cases hl
    · cases hl
  · split at hl
    · split at hl
      · split at hl
        · cases hl; rfl
        · cases hl
      · cases hl
    · cases hl
  · split at hl
    · rename_i o ho
      split at hl
      · split at hl
        · rename_i xs' hc
          obtain ⟨eid', fr, e', xs0⟩ := o
          have he := cast_self hc
          cases he
          have := cast_same hc
          subst this
          cases hl
          simp only [St.backAt, St.back, ho]
          rw [cast_refl]
          dsimp only
          rw [splice'_all]
        · cases hl
      · cases hl
    · cases hl
  · split at hl
    · split at hl
      · split at hl
        · cases hl; rfl
        · cases hl
      · cases hl
    · cases hl
  · cases hl
theorem behind_take (h : Inv B X w0 S ν st tmps w) {v v' : Value} {eid : TypeId} {e : Ty} {r : List e.I} {d : Option Tmp} (hf : e.flat = true) (hK : Kept w.heap.size (takeLnt v) w w') (hv : ∀ b, v.ownBlock = some b → S b ∧ B ≤ b ∧ X.v.ownBlock ≠ some b ∧ ∀ g p, olook g st.objs = some p → (ν g).ownBlock ≠ some b)
    (ho : ObjRd 0 w' (fun _ => False) v' ⟨eid, true, e, r⟩) (hb : ∀ b, v'.ownBlock = some b → v.ownBlock = some b ∨ w.heap.size ≤ b) (hr : (evResult st d [.row eid e] r).run = some st') :
    ∃ S' ν', Inv B X w0 S' ν' st' (Act.put ⟨tmps, ds⟩ d v').tmps w' := by
  have hbase : B ≤ w.heap.size := Nat.le_trans h.base.1 h.fr.size
  have hlt : ∀ b, v'.ownBlock = some b → b < w'.heap.size := fun b hb => by
    obtain ⟨cs, k1, _⟩ := ho
    exact (k1.lt b hb).2
  have h1 : Inv B X w0 (fun c => S c ∨ v'.ownBlock = some c) ν st tmps w' := by
    refine h.shift (M := fun c => v.ownBlock = some c) hK.os hK.tape hK.output hK.size (fun b hl hM => hK.block b hl (by simp [takeLnt, Value.ownBlock]) hM) (fun b hM => (hv b hM).1) (fun g o b hg hgb hM => (hv b hM).2.2.2 g o hg hgb) (fun b hx hM => (hv b hM).2.2.1 hx) (fun b hM => .inl (hv b hM).2.1) (fun b hs => .inl hs) (fun b hs => ?_) (fun b hs => ?_)
    · rcases hs with hs | hs
      · exact .inl hs
      · rcases hb b hs with e | e
        · exact .inl (hv b e).1
        · exact .inr e
    · rcases hs with hs | hs
      · exact Nat.lt_of_lt_of_le (h.lt b hs) hK.size
      · exact hlt b hs
  cases d with
  | none => cases hr
  | some d =>
    cases hr
    have hobj : ObjRd B w' (fun c => S c ∨ v'.ownBlock = some c) v' ⟨eid, true, e, r⟩ := by
      obtain ⟨cs, k1, k2⟩ := ho
      exact ⟨cs, k1, k2.flat hf⟩
    have h2 := h1.adopt d hobj (fun b hb => .inr hb) (fun g p b _ hp hgb hb' => by
      rcases hb b hb' with e | e
      · exact (hv b e).2.2.2 g p hp hgb
      · have := h.lt b (h.own g p b hp hgb)
        omega) (fun b hb' => by
      rcases hb b hb' with e | e
      · exact .inl (hv b e).2.1
      · exact .inl (by omega))
    have h3 := set_ref h2 (tag := d) look_new d
    rw [upd_same] at h3
    exact ⟨_, _, h3⟩
theorem argsS_weak {S1 S2 : Nat → Prop} (hS : ∀ b, S2 b → S1 b) : ∀ {ps : List Ty} {x : Tys.I ps} {vs : List Value}, ArgsRdS w S1 ps x vs → ArgsRdS w S2 ps x vs
  | [], _, _, h => h
  | _ :: _, _, _, ⟨v, us, e, h1, h2⟩ => ⟨v, us, e, h1.keep (Nat.le_refl _) (fun b _ hb => hS b hb) (fun _ _ _ => rfl), argsS_weak hS h2⟩
theorem evArgsF_ok : ∀ {ps : List Ty} {args : List Operand} {x : Tys.I ps} {st st' : St} {S : Nat → Prop}, Inv B X w0 S ν st tmps w → evArgsF ps args st = some (st', x) →
    ∃ S', (∀ b, S' b → S b) ∧ Inv B X w0 S' ν st' tmps w ∧ ArgsRdS w S' ps x (args.map (⟨tmps, ds⟩ : Act).eval)
  | [], [], _, _, _, S, h, hr => by cases hr; exact ⟨S, fun _ h => h, h, rfl⟩
  | [], _ :: _, _, _, _, _, _, hr => by cases hr
  | _ :: _, [], _, _, _, _, _, hr => by cases hr
  | t :: r, o :: os, x, st, st', S, h, hr => by
    unfold evArgsF at hr
    split at hr
    · rename_i tag hs
      split at hr
      · cases hr
      · rename_i htk
        have htk : isTk tag = false := by simpa using htk
        split at hr
        · rename_i ob hob
          split at hr
          · rename_i y q hy hq
            cases hr
            have hv := opd_ok (ds := ds) h hs
            have hz := h.freeze hob htk
            obtain ⟨S', k1, k2, k3⟩ := evArgsF_ok hz hq
            refine ⟨S', fun b hb => (k1 b hb).1, k2, _, _, rfl, ?_, k3⟩
            have ha : st.asVal (.ref tag) t = some (ob.fr, y) := by
              simp only [St.asVal, hob, hy]
            exact arg_okS h hv ha (Sc := S') (fun b hb => (k1 b hb).1) (fun tag' ht _ b hb => by
              rcases ht with ht | ⟨_, _, _, _, ht⟩
              · cases ht; exact (k1 b hb).2
              · cases ht) (fun ht => by
              rcases ht with ht | ⟨_, _, _, ht⟩ <;> cases ht)
          · cases hr
        · cases hr
    · rename_i tag lo fr e xs hs
      split at hr
      · cases hr
      · rename_i htk
        have htk : isTk tag = false := by simpa using htk
        split at hr
        · rename_i ob hob
          split at hr
          · rename_i y q hy hq
            cases hr
            have hv := opd_ok (ds := ds) h hs
            have hz := h.freeze hob htk
            obtain ⟨S', k1, k2, k3⟩ := evArgsF_ok hz hq
            refine ⟨S', fun b hb => (k1 b hb).1, k2, _, _, rfl, ?_, k3⟩
            have ha : st.asVal (.view tag lo fr e xs) t = some (fr, y) := by
              simp only [St.asVal, hy]
            exact arg_okS h hv ha (Sc := S') (fun b hb => (k1 b hb).1) (fun tag' ht _ b hb => by
              rcases ht with ht | ⟨_, _, _, _, ht⟩
              · cases ht
              · cases ht; exact (k1 b hb).2) (fun ht => by
              rcases ht with ht | ⟨_, _, _, ht⟩ <;> cases ht)
          · cases hr
        · cases hr
    · rename_i s hns1 hns hs
      split at hr
      · rename_i hf
        split at hr
        · rename_i fr y q hy hq
          cases hr
          have hv := opd_ok (ds := ds) h hs
          obtain ⟨S', k1, k2, k3⟩ := evArgsF_ok h hq
          refine ⟨S', k1, k2, _, _, rfl, ?_, k3⟩
          exact arg_okS h hv hy (Sc := S') k1 (fun tag' ht => by
            rcases ht with rfl | ⟨_, _, _, _, rfl⟩ <;> cases hf) (fun ht => by
            rcases ht with rfl | ⟨_, _, _, rfl⟩ <;> cases hf)
        · cases hr
      · cases hr
    · cases hr
theorem behind_old (h : Inv B X w0 S ν st tmps w) {t : Ty} {rs : List RTy} {r : t.I × RTys.I rs} {v0 : Value} {vs : List Value} {d : Option Tmp} (hb : Below w.heap.size w w') (hnd : (rowBlocks rs vs).Nodup) (h0 : RdV w' (fun b => S b ∨ b ∈ rowBlocks rs vs) t r.1 v0)
    (hl : RetList w.heap.size w' (· ∈ rowBlocks rs vs) rs r.2 vs) (hr : (evResultO st d t rs r).run = some st') : ∃ S' ν', Inv B X w0 S' ν' st' (Act.put ⟨tmps, ds⟩ d (retO v0 vs)).tmps w' := by
  have hlt := hl.lt
  have hbase : B ≤ w.heap.size := Nat.le_trans h.base.1 h.fr.size
  have h1 : Inv B X w0 (fun b => S b ∨ b ∈ rowBlocks rs vs) ν st tmps w' :=
    h.widen (grown_below hb) (fun b hb => .inl hb) (fun b hb => hb.imp id fun hb => (hlt b hb).1) (fun b hb' => hb'.elim (fun hb' => Nat.lt_of_lt_of_le (h.lt b hb') hb.size) fun hb' => (hlt b hb').2)
  have hS : ∀ b, (S b ∨ b ∈ rowBlocks rs vs) → b ∈ rowBlocks rs vs ∨ b < w.heap.size := fun b hb => hb.elim (fun hb => .inr (h.lt b hb)) .inl
  have hfresh : ∀ b ∈ rowBlocks rs vs, (S b ∨ b ∈ rowBlocks rs vs) ∧ ∀ g p, olook g st.objs = some p → (ν g).ownBlock ≠ some b := by
    intro b hb'
    refine ⟨.inr hb', fun g p hp hgb => ?_⟩
    obtain ⟨cs, k1, _⟩ := h.obj g p hp
    have := (k1.lt b hgb).2
    have := (hlt b hb').1
    omega
  have h0' : RdV w' (Av (fun b => S b ∨ b ∈ rowBlocks rs vs) B false) t r.1 v0 := h0.keep (Nat.le_refl _) (fun b _ hb => by
    rcases hb with hb | ⟨hb, _⟩
    · exact hb
    · cases hb) (fun _ _ _ => rfl)
  match rs, r, hr, hl, h1, hS, hfresh, hnd, h0' with
  | [], r, hr, hl, h1, _, _, _, h0' =>
    have hl : vs = [] := hl
    subst hl
    cases d with
    | none => cases hr
    | some d =>
      cases hr
      exact ⟨_, _, h1.set (s := .val false t r.1) h0' d⟩
  | r1 :: q, r, hr, hl, h1, hS, hfresh, hnd, h0' =>
    cases d with
    | none => cases hr
    | some d =>
      unfold evResultO at hr
      dsimp only at hr
      cases hs : retSlots (1000 * (d + 1) + 1) st (r1 :: q) r.2 with
      | mk st1 ss =>
        rw [hs] at hr
        cases hr
        obtain ⟨ν1, k1, k2, k3, _⟩ := retSlots_ok hbase hS h1 hl hfresh hnd hs
        have hne : vs ≠ [] := by
          intro e
          subst e
          cases q with
          | nil => obtain ⟨v, e, _⟩ := hl; cases e
          | cons s q => obtain ⟨v, us, e, _⟩ := hl; cases e
        have hv : retO v0 vs = .tuple (v0 :: vs).toArray := by
          cases vs with
          | nil => exact absurd rfl hne
          | cons v vs => rfl
        rw [hv]
        exact ⟨_, _, k1.set (s := .tup (.val false t r.1 :: ss)) ⟨(v0 :: vs).toArray, rfl, by simpa using k2, fun i s hs => by
          cases i with
          | zero =>
            cases hs
            exact ⟨v0, by simp, h0'⟩
          | succ i =>
            obtain ⟨u, e1, e2⟩ := k3 i s (by simpa using hs)
            exact ⟨u, by simpa using e1, e2⟩⟩ d⟩
theorem call_op {o : Oper} {f : FuncId} {args : List Operand} {ts : Array TypeId} (ho : o.op = .call { callee := .value (.func f), args := ⟨args⟩, argTypes := ts }) (hruns : ∃ fn c, P.funcs[f]? = some fn ∧ (fn.name == "runtime.NumGoroutine") = false ∧ fn.body = some c)
    (hcall : Calls P f ⟨args.map (⟨tmps, ds⟩ : Act).eval⟩ w fun e w' => ∃ v, e = .returned v ∧ (∃ S' ν', Inv B X w0 S' ν' st' (Act.put ⟨tmps, ds⟩ o.dst v).tmps w') ∧ (growOp Λ o = true → Ext w w')) : OpOk P Λ B X w0 o tmps ds w st' := by
  obtain ⟨fn, c, r1, r2, r3⟩ := hruns
  intro K Q hK
  unfold Oper.wp
  have hrun : (execOp (⟨tmps, ds⟩ : Act).eval o).run P w = .ok (.enter f ⟨args.map (⟨tmps, ds⟩ : Act).eval⟩) w := by
    simp only [execOp, ho]
    simp [resolve, invoke, Deferred.ofValue, Act.eval, run_callFunc r1 r2 r3]
  rw [hrun, Oper.upon_enter]
  refine hcall.mono fun e w' hpost => ?_
  obtain ⟨v, he, ⟨S', ν', hi⟩, hext⟩ := hpost
  subst he
  show K (Act.put ⟨tmps, ds⟩ o.dst v) w'
  rw [act_eta]
  exact hK _ _ _ _ hi hext
theorem box_call (h : Inv B X w0 S ν st tmps w) {o : Oper} {f : FuncId} {a : Operand} {as : List Operand} {ts : Array TypeId} (ho : o.op = .call { callee := .value (.func f), args := ⟨a :: as⟩, argTypes := ts }) {fa : BFun} (hF : BoxOk P f fa) {g : Lend} {b k : Nat} {y : fa.e.I} {x : Tys.I fa.ps} {r : fa.e.I × RTys.I fa.rs} {st2 : St}
    (hl : LendOk B X w0 S ν st tmps w g fa.eid fa.e [y] (.slice (some ⟨b, k, none⟩) 1 1)) (hv : (⟨tmps, ds⟩ : Act).eval a = .pointer (some ⟨b, k, none⟩)) (hx : evArgsL st g fa.e.flat fa.ps as = some x) (hFr : fa.F y x = some r) (hb : st.back g fa.e [r.1] = some st2) (hr : (evResult st2 o.dst fa.rs r.2).run = some st')
    (hng : ∀ {w' : World}, growOp Λ o = true → Ext w w') : OpOk P Λ B X w0 o tmps ds w st' := by
  obtain ⟨X', Sc, hXv, hXm, h1, h2, h3, h4, hback⟩ := hl
  have hX : X' = ⟨.slice (some ⟨b, k, none⟩) 1 1, k, fa.e.size, fun _ => False, fun _ => False⟩ := by
    obtain ⟨cs, _, _, hw⟩ := h4
    rcases hw with ⟨e, _⟩ | ⟨b', cap, cur, e, _, hn, _⟩
    · rw [hXv] at e; cases e
    · rw [hXv] at e
      injection e with e
      injection e with e
      injection e with _ e
      obtain ⟨v', k', n', m', a'⟩ := X'
      dsimp only at hXv e hn hXm
      subst hXv e
      rw [hn]
      have : m' = fun _ => False := funext fun c => propext ⟨fun h => (hXm c).1 h, fun h => h.elim⟩
      rw [this]
      have : a' = fun _ => False := funext fun c => propext ⟨fun h => (hXm c).2 h, fun h => h.elim⟩
      rw [this]
      simp
  subst hX
  have hargs := evArgsL_ok (ds := ds) h h3 hx
  have hc := hF.calls y x r hFr w Sc b k (as.map (⟨tmps, ds⟩ : Act).eval) h1.2 (h1.1 b rfl) h2 h4 hargs
  rw [← hv] at hc
  refine call_op ho hF.runs (hc.mono fun e w' hp => ?_)
  obtain ⟨v, vs, he, hK, hw, hret⟩ := hp
  exact ⟨v, he, hback ds w' [r.1] fa.rs r.2 v vs o.dst st2 st' hK hw hret hb hr, hng⟩
theorem evCall_ok (hT : ∀ f fa, T f = some fa → CalleeOk P f fa) (h : Inv B X w0 S ν st tmps w) {o : Oper} {f : FuncId} {args : List Operand} {ts : Array TypeId} (ho : o.op = .call { callee := .value (.func f), args := ⟨args⟩, argTypes := ts }) (hgrow : ∀ fa, T f = some fa → fa.isPlain = false → growOp Λ o = false)
    (hr : (evCall T st o.dst f args).run = some st') : OpOk P Λ B X w0 o tmps ds w st' := by
  unfold evCall at hr
  split at hr
  · rename_i fa hfa
    have hF : FunOk P f fa := hT f _ hfa
    split at hr
    · rename_i x hx
      obtain ⟨r, hFr, hr⟩ := run_bnd hr
      have hargs := evArgs_ok (ds := ds) h hx
      refine call_op ho hF.runs ((hF.calls x r hFr w ⟨_⟩ h.held hargs).mono fun e w' hp => ?_)
      obtain ⟨v, he, hb, hret⟩ := hp
      exact ⟨v, he, behind h hb hret hr, fun _ => Ext.below hb⟩
    · cases hr
  · rename_i fa a as hfa
    have hF : BoxOk P f fa := hT f _ hfa
    have hng : ∀ {w' : World}, growOp Λ o = true → Ext w w' := fun h => by rw [hgrow _ hfa rfl] at h; cases h
    split at hr
    · rename_i tag i t snap hs
      have hv : Slot1Rd B X w S ν st.objs (.eptr tag i [] t snap) _ := opd_ok (ds := ds) h hs
      obtain ⟨o1, b, n, cap, el, p1, p2, p3, p4, p5, _⟩ := hv
      split at hr
      · rename_i o2 ho2
        rw [ho2] at p1
        have e12 := Option.some.inj p1
        subst e12
        split at hr
        · rename_i hid
          have hid := nbeq.1 hid
          obtain ⟨el2, hel, hr⟩ := run_bnd hr
          obtain ⟨_, hel2, _, hlt⟩ := idx_some hel
          split at hr
          · rename_i y x hy hx
            obtain ⟨r, hFr, hr⟩ := run_bnd hr
            split at hr
            · rename_i z hz
              obtain ⟨eid', fr, e', xs0⟩ := o2
              have he := cast_self hy
              dsimp only at he
              subst he
              have hid : eid' = fa.eid := hid
              subst hid
              have := cast_same hy
              subst this
              have := cast_same hz
              subst this
              have hm : n = xs0.length := by
                obtain ⟨cs, hown, _⟩ := h.obj tag _ ho2
                rcases hown.2 with ⟨k1, _⟩ | ⟨b', capo, cur, k1, _⟩
                · rw [p2] at k1; cases k1
                · rw [p2] at k1; cases k1; rfl
              have hl := own_lend h ho2 (lo := i.toNat) (n := 1) (v := .slice (some ⟨b, 0 + i.toNat * fa.e.size, none⟩) 1 1) (.inr ⟨b, 0, n, cap, _, 1, p2, rfl, Nat.le_refl _, by dsimp only at hlt; omega, .inl rfl⟩) (by dsimp only at hlt; omega)
              rw [drop_one hel2] at hl
              refine box_call h ho hF hl (by rw [p4, offAt_nil]; simp) hx hFr ?_ hr hng
              simp only [St.back, ho2]
              rw [show Ty.cast (.sl fa.e) (.sl fa.e) [r.1] = some [r.1] by simp [Ty.cast]]
              dsimp only
              rw [splice'_set hlt]
            · cases hr
          · cases hr
        · cases hr
      · cases hr
    · rename_i i e' t hs
      have hv : Slot1Rd B X w S ν st.objs (.leptr i e' [] t) _ := opd_ok (ds := ds) h hs
      obtain ⟨b, n, cap, p1, p2, p3, _⟩ := hv
      split at hr
      · rename_i o2 ho2
        split at hr
        · rename_i hid
          simp only [Bool.and_eq_true, decide_eq_true_eq] at hid
          obtain ⟨hid, hee⟩ := hid
          have hid := nbeq.1 hid
          subst hee
          obtain ⟨el2, hel, hr⟩ := run_bnd hr
          obtain ⟨_, hel2, _, hlt⟩ := idx_some hel
          split at hr
          · rename_i y x hy hx
            obtain ⟨r, hFr, hr⟩ := run_bnd hr
            split at hr
            · rename_i z hz
              obtain ⟨eid', fr, e', xs0⟩ := o2
              have he := cast_self hy
              dsimp only at he
              subst he
              have hid : eid' = fa.eid := hid
              subst hid
              have := cast_same hy
              subst this
              have := cast_same hz
              subst this
              have hm : n = xs0.length := by
                obtain ⟨cs, _, _, hw⟩ := h.win _ ho2
                rcases hw with ⟨k1, _⟩ | ⟨b', capo, cur, k1, _⟩
                · rw [p1] at k1; cases k1
                · rw [p1] at k1; cases k1; rfl
              have hl := lent_lend h ho2 (lo := i.toNat) (n := 1) (v := .slice (some ⟨b, X.k + i.toNat * fa.e.size, none⟩) 1 1) (.inr ⟨b, X.k, n, cap, _, 1, p1, rfl, Nat.le_refl _, by dsimp only at hlt; omega, .inl rfl⟩) (by dsimp only at hlt; omega)
              rw [drop_one hel2] at hl
              refine box_call h ho hF hl (by rw [p3, offAt_nil]; simp) hx hFr ?_ hr hng
              simp only [St.back, ho2]
              rw [show Ty.cast (.sl fa.e) (.sl fa.e) [r.1] = some [r.1] by simp [Ty.cast]]
              dsimp only
              rw [splice'_set hlt]
            · cases hr
          · cases hr
        · cases hr
      · cases hr
    · cases hr
  · rename_i fa a as hfa
    have hF : HBoxOk P f fa := hT f _ hfa
    have hng : ∀ {w' : World}, growOp Λ o = true → Ext w w' := fun h => by rw [hgrow _ hfa rfl] at h; cases h
    split at hr
    · rename_i tag t snap hs
      have hv : Slot1Rd B X w S ν st.objs (.eptr tag 0 [] t snap) _ := opd_ok (ds := ds) h hs
      obtain ⟨o1, b, n, cap, el, p1, p2, p3, p4, p5, _⟩ := hv
      split at hr
      · rename_i o2 ho2
        rw [ho2] at p1
        have e12 := Option.some.inj p1
        subst e12
        split at hr
        · rename_i hc
          simp only [Bool.and_eq_true] at hc
          obtain ⟨⟨⟨hid, hps⟩, hrs⟩, hnt⟩ := hc
          have hid := nbeq.1 hid
          have hnd := nodup_tagsB hnt
          split at hr
          · rename_i y x hy hx
            obtain ⟨r, hFr, hr⟩ := run_bnd hr
            obtain ⟨q1, q2, q3, q4⟩ := boxFull_spec hy
            have hbx : BoxAt X ν st.objs (some tag) b 0 := ⟨⟨_, ho2⟩, ⟨n, cap, p2⟩, rfl⟩
            have hbb : (ν tag).ownBlock = some b := by rw [p2]; rfl
            have hblocks : ∀ q ∈ rowsOf fa.p y 0, ∀ c, (rowsV ν st (some tag) q.1).ownBlock = some c → S c ∧ c ≠ b := fun q hq c hc => by
              obtain ⟨g, r', m1, m2, m3, _⟩ := rows_blocks h hbx hy hq hc
              refine ⟨h.own g r' c m2 m3, fun e => ?_⟩
              subst e
              have := h.sep g tag r' _ c m2 ho2 m3 hbb
              subst this
              exact (List.nodup_cons.1 hnd).1 m1
            have hheld : HeldIn w.heap.size (boxLnt b 0 (holeT fa.p).size (rowsV ν st (some tag)) (rowsOf fa.p y 0)) w := h.laidIn (fun i c hi hm => by
              obtain ⟨q, hq, hc⟩ := hm
              obtain ⟨g, r', m1, m2, m3, _⟩ := rows_blocks h hbx hy hq hc
              exact h.notHeld m2 hi m3) (fun i c hi e => by
              have e : some b = some c.1 := e
              exact h.notHeld ho2 hi (hbb.trans e))
            have hargs := flat_args (S1 := S) hps (evArgs_ok (ds := ds) h hx)
            have hwin := own_win h ho2 p2 q3 q2 (rowsV ν st (some tag)) (rowsOf fa.p y 0)
            have hrows := rows_given h hbx hy (List.nodup_cons.1 hnd).2
            rw [hid] at hwin
            have hc := hF.calls y x r hFr w S b 0 (rowsV ν st (some tag)) (as.map (⟨tmps, ds⟩ : Act).eval) hheld (h.own tag _ b ho2 hbb) h.lt hblocks hwin hrows hargs
            have hva : (⟨tmps, ds⟩ : Act).eval a = .pointer (some ⟨b, 0, none⟩) := by rw [p4, offAt_nil]; simp
            rw [← hva] at hc
            refine call_op ho hF.runs (hc.mono fun e w' hp => ?_)
            obtain ⟨v, vs, rv', he, k1, k2, k3, k4, k5⟩ := hp
            rw [← hid] at k2
            exact ⟨v, he, behind_hown h ho2 p2 hy hnd k1 k2 k3 k4 k5 hrs hr, hng⟩
          · cases hr
        · cases hr
      · cases hr
    · rename_i e' t hs
      have hv : Slot1Rd B X w S ν st.objs (.leptr 0 e' [] t) _ := opd_ok (ds := ds) h hs
      obtain ⟨b, n, cap, p1, p2, p3, _⟩ := hv
      split at hr
      · rename_i o2 ho2
        split at hr
        · rename_i hc
          simp only [Bool.and_eq_true, decide_eq_true_eq] at hc
          obtain ⟨⟨⟨⟨hid, hee⟩, hps⟩, hrs⟩, hnt⟩ := hc
          have hid := nbeq.1 hid
          have hnd := nodup_tagsB hnt
          split at hr
          · rename_i y x hy hx
            obtain ⟨r, hFr, hr⟩ := run_bnd hr
            obtain ⟨q1, q2, q3, q4⟩ := boxFull_spec hy
            have hbx : BoxAt X ν st.objs none b X.k := ⟨⟨n, cap, p1⟩, rfl⟩
            have hbb : X.v.ownBlock = some b := by rw [p1]; rfl
            have hblocks : ∀ q ∈ rowsOf fa.p y 0, ∀ c, (rowsV ν st none q.1).ownBlock = some c → S c ∧ c ≠ b := fun q hq c hc => by
              obtain ⟨g, r', m1, m2, m3, _⟩ := rows_blocks h hbx hy hq hc
              refine ⟨h.own g r' c m2 m3, fun e => ?_⟩
              subst e
              exact h.notX m2 m3 hbb
            have hheld : HeldIn w.heap.size (boxLnt b X.k (holeT fa.p).size (rowsV ν st none) (rowsOf fa.p y 0)) w := h.laidIn (fun i c hi hm => by
              obtain ⟨q, hq, hc⟩ := hm
              obtain ⟨g, r', m1, m2, m3, _⟩ := rows_blocks h hbx hy hq hc
              exact h.notHeld m2 hi m3) (fun i c hi e => by
              have e : some b = some c.1 := e
              exact (h.base.2 i c hi).2.2.1 (hbb.trans e))
            have hargs := flat_args (S1 := S) hps (evArgs_ok (ds := ds) h hx)
            have hwin := lent_win h ho2 p1 q3 q2 (rowsV ν st none) (rowsOf fa.p y 0)
            have hrows := rows_given h hbx hy hnd
            rw [hid] at hwin
            have hc := hF.calls y x r hFr w S b X.k (rowsV ν st none) (as.map (⟨tmps, ds⟩ : Act).eval) hheld (h.lx b hbb).1 h.lt hblocks hwin hrows hargs
            have hva : (⟨tmps, ds⟩ : Act).eval a = .pointer (some ⟨b, X.k, none⟩) := by rw [p3, offAt_nil]; simp
            rw [← hva] at hc
            refine call_op ho hF.runs (hc.mono fun e w' hp => ?_)
            obtain ⟨v, vs, rv', he, k1, k2, k3, k4, k5⟩ := hp
            rw [← hid] at k2
            exact ⟨v, he, behind_hlent h ho2 p1 hy hnd k1 k2 k3 k4 k5 hrs hr, hng⟩
          · cases hr
        · cases hr
      · cases hr
    · cases hr
  · rename_i fa a as hfa
    have hF : LentOk P f fa := hT f _ hfa
    have hng : ∀ {w' : World}, growOp Λ o = true → Ext w w' := fun h => by rw [hgrow _ hfa rfl] at h; cases h
    split at hr
    · rename_i s hs
      split at hr
      · rename_i g xs hg
        split at hr
        · rename_i x hx
          obtain ⟨r, hFr, hr⟩ := run_bnd hr
          obtain ⟨X', Sc, hXv, hXm, h1, h2, h3, h4, hback⟩ := lend_ok h (opd_ok (ds := ds) h hs) hg
          have hargs := evArgsL_ok (ds := ds) h h3 hx
          have hc := hF.calls xs x r hFr w Sc X' (as.map (⟨tmps, ds⟩ : Act).eval) h1.2 hXm h1.1 h2 h4 hargs
          rw [hXv] at hc
          split at hr
          · rename_i st2 hst2
            rw [back_at hg] at hst2
            refine call_op ho hF.runs (hc.mono fun e w' hp => ?_)
            obtain ⟨v, vs, he, hK, hw, hret⟩ := hp
            exact ⟨v, he, hback ds w' r.1 fa.rs r.2 v vs o.dst st2 st' hK hw hret hst2 hr, hng⟩
          · cases hr
        · cases hr
      · cases hr
    · cases hr
  · rename_i fa hfa
    have hF : OldOk P f fa := hT f _ hfa
    split at hr
    · rename_i q hq
      obtain ⟨st1, x⟩ := q
      obtain ⟨r, hFr, hr⟩ := run_bnd hr
      obtain ⟨S1, _, k2, k3⟩ := evArgsF_ok (ds := ds) h hq
      refine call_op ho hF.runs ((hF.calls x r hFr w S1 _ h.held k2.lt k3).mono fun e w' hp => ?_)
      obtain ⟨v0, vs, he, p1, p2, p3, p4⟩ := hp
      exact ⟨_, he, behind_old k2 p1 p2 p3 p4 hr, fun _ => Ext.below p1⟩
    · cases hr
  · rename_i fa a as hfa
    have hF : TakeOk P f fa := hT f _ hfa
    have hng : ∀ {w' : World}, growOp Λ o = true → Ext w w' := fun h => by rw [hgrow _ hfa rfl] at h; cases h
    split at hr
    · rename_i tag hs
      have hv : Slot1Rd B X w S ν st.objs (.ref tag) ((⟨tmps, ds⟩ : Act).eval a) := opd_ok (ds := ds) h hs
      obtain ⟨hva, _⟩ := hv
      split at hr
      · rename_i o2 ho2
        split at hr
        · rename_i hc
          simp only [Bool.and_eq_true, Bool.not_eq_true'] at hc
          obtain ⟨hid0, hfl, hps, hnt⟩ := hc
          have hid1 := nbeq.1 hid0
          split at hr
          · rename_i xs x hxs hx
            obtain ⟨r, hFr, hr2⟩ := run_bnd hr
            obtain ⟨eid', fr, e', xs0⟩ := o2
            have he := cast_self hxs
            dsimp only at he
            cases he
            have := cast_same hxs
            dsimp only at this
            subst this
            have hid2 : eid' = fa.eid := hid1
            subst hid2
            have hobj : ObjRd 0 w (fun _ => False) (ν tag) ⟨fa.eid, true, fa.e, xs0⟩ := by
              obtain ⟨cs, k1, k2⟩ := h.obj tag _ ho2
              exact ⟨cs, k1, k2.flat hfl⟩
            have hheld : HeldIn w.heap.size (takeLnt (ν tag)) w := h.laidIn (fun i c hi hm => h.notHeld ho2 hi hm) (fun i c hi e => by cases e)
            have hargs := flat_args (S1 := S) hps (evArgs_ok (ds := ds) h hx)
            have hc := hF.calls hfl xs0 x r hFr w S (ν tag) (as.map (⟨tmps, ds⟩ : Act).eval) hheld h.lt (fun b hb => h.own tag _ b ho2 hb) hobj hargs
            rw [← hva] at hc
            refine call_op ho hF.runs (hc.mono fun e w' hp => ?_)
            obtain ⟨v', he, k1, k2, k3⟩ := hp
            rw [hva] at k1 k3
            refine ⟨v', he, behind_take (h.forget tag) hfl k1 (fun b hb => ⟨h.own tag _ b ho2 hb, ?_, h.notX ho2 hb, fun g p hg hgb => ?_⟩) k2 k3 hr2, hng⟩
            · rcases h.nw tag _ b ho2 hb with e | ⟨e, _⟩
              · exact e
              · rw [hnt] at e; cases e
            · by_cases e : g = tag
              · subst e
                have hg : olook g (odrop g st.objs) = some p := hg
                rw [olook_drop] at hg; cases hg
              · have hg : olook g (odrop tag st.objs) = some p := hg
                rw [olook_drop_ne e] at hg
                exact e (h.sep g tag p _ b hg ho2 hgb hb)
          · cases hr
        · cases hr
      · cases hr
    · rename_i hs
      have hva : (⟨tmps, ds⟩ : Act).eval a = .slice none 0 0 := opd_ok (ds := ds) h hs
      split at hr
      · rename_i hc
        simp only [Bool.and_eq_true] at hc
        obtain ⟨hfl, hps⟩ := hc
        split at hr
        · rename_i x hx
          obtain ⟨r, hFr, hr⟩ := run_bnd hr
          have hobj : ObjRd 0 w (fun _ => False) (.slice none 0 0) ⟨fa.eid, true, fa.e, []⟩ := ⟨[], World.ownsRow_nil w 0 fa.eid fa.e.size, fun j x hj => by simp at hj⟩
          have hheld : HeldIn w.heap.size (takeLnt (.slice none 0 0)) w := h.laidIn (fun i c hi hm => by cases hm) (fun i c hi e => by cases e)
          have hargs := flat_args (S1 := S) hps (evArgs_ok (ds := ds) h hx)
          have hc := hF.calls hfl [] x r hFr w S (.slice none 0 0) (as.map (⟨tmps, ds⟩ : Act).eval) hheld h.lt (fun b hb => by cases hb) hobj hargs
          rw [← hva] at hc
          refine call_op ho hF.runs (hc.mono fun e w' hp => ?_)
          obtain ⟨v', he, k1, k2, k3⟩ := hp
          rw [hva] at k1 k3
          exact ⟨v', he, behind_take h hfl k1 (fun b hb => by cases hb) k2 k3 hr, hng⟩
        · cases hr
      · cases hr
    · cases hr
  · cases hr
end Go.Proofs.YtnldcpanpojeiaaGreatDoor
