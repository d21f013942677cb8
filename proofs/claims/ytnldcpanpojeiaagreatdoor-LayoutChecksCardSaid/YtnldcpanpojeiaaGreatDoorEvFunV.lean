/-
  Function values that capture boxes: how they are made, and called.
-/
import Derived.Test.YtnldcpanpojeiaaGreatDoorEvCall3
namespace Go.Proofs.YtnldcpanpojeiaaGreatDoor
open Go.RowKit
variable {P : Program} {Λ : List Nat} {G : Ctx} {A : Ann} {T : FuncId → Option Callee} {B : Nat} {X : Lnt} {w0 w w' : World} {S S' : Nat → Prop} {ν : Nat → Value} {st st' : St} {tmps : Array Value} {ds : List Deferred}
theorem evCap1_ok (h : Inv B X w0 S ν st tmps w) {a : Operand} {q : Bool × Dat × St} (hq : evCap1 st a = some q) :
    ∃ S', Inv B X w0 S' ν q.2.2 tmps w ∧ (∀ b, S' b → S b) ∧ Rd w (Av S' B q.1) q.2.1.t q.2.1.x [(⟨tmps, ds⟩ : Act).eval a] := by
  unfold evCap1 at hq
  split at hq
  · rename_i fr t y ha
    cases hq
    have hs : RdV w (Av S B fr) (.ptr t) y _ := opd_ok (ds := ds) h ha
    obtain ⟨cs, h1, h2⟩ := hs
    refine ⟨S, h, fun b hb => hb, ?_⟩
    have h1' := h1
    unfold Rd at h1'
    obtain ⟨ad, e, _⟩ := h1'
    rw [e] at h1 h2
    rw [h2]
    exact h1
  · rename_i g u sn ha
    have hs : Slot1Rd B X w S ν st.objs (.eptr g 0 [] u sn) _ := opd_ok (ds := ds) h ha
    split at hq
    · rename_i o ho
      split at hq
      · cases hq
      · rename_i htk
        have htk : isTk g = false := by simpa using htk
        split at hq
        · rename_i x hx
          cases hq
          refine ⟨_, h.freezeB ho htk hx, fun b hb => hb.1, ?_⟩
          obtain ⟨o1, b, n, cap, el, p1, p2, p3, p4, p5, _⟩ := hs
          rw [ho] at p1
          have e1 := Option.some.inj p1
          subst e1
          have hb0 : (ν g).ownBlock = some b := by rw [p2]; rfl
          have hlt := h.lt b (h.own g o b ho hb0)
          have hel : el = x := by
            rw [hx] at p5
            exact (Option.some.inj p5).symm
          subst hel
          obtain ⟨cs, hown2, hrow⟩ := h.obj g o ho
          have hcells := @World.ownsRow.cells _ _ _ _ _ _ _ hown2
          obtain ⟨us, k1, k2⟩ := hrow 0 el p5
          have hB : B ≤ b := (h.nw g o b ho hb0).resolve_right fun h => by rw [htk] at h; cases h.1
          rw [p4, offAt_nil]
          unfold Rd
          refine ⟨⟨b, 0, none⟩, by simp, fun hav => ?_, hlt, us, k1.keep (Nat.le_refl _) (fun b _ hs => hs.imp (fun h => h.1) id) (fun _ _ _ => rfl), fun j z hj => ?_⟩
          · rcases hav with hav | ⟨_, hav⟩
            · exact hav.2 hb0
            · have hav : b < B := hav
              omega
          · have := hcells hb0 _ _ (k2 j z hj)
            simpa using this
        · cases hq
    · cases hq
  · cases hq
theorem evCaps_ok : ∀ {l : List Operand} {st : St} {S : Nat → Prop} {q : Bool × Dat × St}, Inv B X w0 S ν st tmps w → evCaps l st = some q →
    ∃ S', Inv B X w0 S' ν q.2.2 tmps w ∧ (∀ b, S' b → S b) ∧ Rd w (Av S' B q.1) q.2.1.t q.2.1.x (l.map (⟨tmps, ds⟩ : Act).eval)
  | [], st, S, q, _, hq => by cases hq
  | [a], st, S, q, h, hq => evCap1_ok h hq
  | a :: b :: r, st, S, q, h, hq => by
    unfold evCaps at hq
    split at hq
    · rename_i q1 hq1
      obtain ⟨S1, h1, hs1, r1⟩ := evCap1_ok (ds := ds) h hq1
      split at hq
      · rename_i q2 hq2
        cases hq
        obtain ⟨S2, h2, hs2, r2⟩ := evCaps_ok (l := b :: r) h1 hq2
        refine ⟨S2, h2, fun b hb => hs1 b (hs2 b hb), ?_⟩
        show Rd w (Av S2 B (q1.1 && q2.1)) (.pair q1.2.1.t q2.2.1.t) (q1.2.1.x, q2.2.1.x) _
        unfold Rd
        refine ⟨[(⟨tmps, ds⟩ : Act).eval a], (b :: r).map (⟨tmps, ds⟩ : Act).eval, rfl, r1.keep (Nat.le_refl _) (fun c _ hc => ?_) (fun _ _ _ => rfl), r2.keep (Nat.le_refl _) (fun c _ hc => ?_) (fun _ _ _ => rfl)⟩
        · rcases hc with hc | ⟨hc, hc2⟩
          · exact .inl (hs2 c hc)
          · rw [Bool.and_eq_true] at hc; exact .inr ⟨hc.1, hc2⟩
        · rcases hc with hc | ⟨hc, hc2⟩
          · exact .inl hc
          · rw [Bool.and_eq_true] at hc; exact .inr ⟨hc.2, hc2⟩
      · cases hq
    · cases hq
theorem evMakeFunc_ok (h : Inv B X w0 S ν st tmps w) {o : Oper} {fn : Fn} {first caps : Array Operand} (ho : o.op = .makeFunc fn first caps) (hr : (evMakeFunc st o.dst fn first caps).run = some st') : MemOk P Λ B X w0 o tmps ds w st' := by
  unfold evMakeFunc at hr
  split at hr
  · rename_i f
    split at hr
    · rename_i q hq
      cases hr
      obtain ⟨S', h1, _, r1⟩ := evCaps_ok (ds := ds) h hq
      have hv : RdV w (Av S' B q.1) (.fn f q.2.1.t) q.2.1.x (.func (.func f) #[] (caps.map (⟨tmps, ds⟩ : Act).eval)) := by
        refine ⟨[.func (.func f) #[] (caps.map (⟨tmps, ds⟩ : Act).eval)], ?_, rfl⟩
        unfold Rd
        refine ⟨caps.toList.map (⟨tmps, ds⟩ : Act).eval, ?_, r1⟩
        congr 2
        rw [← Array.toList_map]
      refine memOk_val (v := .func (.func f) #[] (caps.map (⟨tmps, ds⟩ : Act).eval)) (w' := w) ?_ (h1.put (s := .val q.1 (.fn f q.2.1.t) q.2.1.x) hv o.dst ds) (fun _ => Ext.refl w)
      simp only [execOp, ho]
      simp [Instr.makeFunc]
    · cases hr
  · cases hr
theorem capArgs_ok : ∀ {ps : List Ty} {p : Ty} {x : p.I} {y : Tys.I ps} {vs : List Value}, capArgs ps p x = some y → Rd w (fun _ => False) p x vs → ArgsRd w ps y vs
  | [.ptr t], .ptr u, x, y, vs, hq, h => by
    unfold capArgs at hq
    split at hq
    · rename_i z hz
      cases hq
      have e := (cast_self hz).symm
      subst e
      have := cast_same hz
      subst this
      have h' := h
      unfold Rd at h'
      obtain ⟨ad, e, _⟩ := h'
      exact ⟨_, [], e, ⟨vs, h, by rw [e]; rfl⟩, rfl⟩
    · cases hq
  | .ptr t :: t2 :: r, .pair (.ptr u) b, x, y, vs, hq, h => by
    unfold capArgs at hq
    split at hq
    · rename_i z z2 hz hz2
      cases hq
      have e := (cast_self hz).symm
      subst e
      have := cast_same hz
      subst this
      unfold Rd at h
      obtain ⟨c1, c2, rfl, h1, h2⟩ := h
      have h1' := h1
      unfold Rd at h1'
      obtain ⟨ad, e, _⟩ := h1'
      refine ⟨_, c2, by rw [e]; rfl, ⟨c1, h1, by rw [e]; rfl⟩, capArgs_ok hz2 h2⟩
    · cases hq
  | [.ptr t], .pair (.ptr u) b, x, y, vs, hq, h => by
    unfold capArgs at hq
    split at hq
    · rename_i z z2 hz hz2
      cases hz2
    · cases hq
theorem evArgsC_ok (h : Inv B X w0 S ν st tmps w) {p : Ty} {x : p.I} {vs : List Value} (hx : Rd w (fun _ => False) p x vs) : ∀ {ps : List Ty} {args : List Operand} {y : Tys.I ps}, evArgsC st p x ps args = some y → ArgsRd w ps y (args.map (⟨tmps, ds⟩ : Act).eval ++ vs)
  | ps, [], y, hr => by
    cases ps with
    | nil => exact capArgs_ok (by unfold evArgsC at hr; exact hr) hx
    | cons t r => exact capArgs_ok (by unfold evArgsC at hr; exact hr) hx
  | [], _ :: _, _, hr => by unfold evArgsC at hr; cases hr
  | t :: r, o :: os, y, hr => by
    unfold evArgsC at hr
    split at hr
    · rename_i s hs
      split at hr
      · rename_i fr y1 z hy hz
        cases hr
        exact ⟨_, _, rfl, arg_ok h (opd_ok (ds := ds) h hs) hy, evArgsC_ok h hx hz⟩
      · cases hr
    · cases hr
theorem call_opV {o : Oper} {f : FuncId} {fo : Operand} {args : List Operand} {caps : List Value} {ts : Array TypeId} (ho : o.op = .call { callee := .value fo, args := ⟨args⟩, argTypes := ts }) (hfo : (⟨tmps, ds⟩ : Act).eval fo = .func (.func f) #[] caps.toArray)
    (hruns : ∃ fn c, P.funcs[f]? = some fn ∧ (fn.name == "runtime.NumGoroutine") = false ∧ fn.body = some c)
    (hcall : Calls P f ⟨args.map (⟨tmps, ds⟩ : Act).eval ++ caps⟩ w fun e w' => ∃ v, e = .returned v ∧ (∃ S' ν', Inv B X w0 S' ν' st' (Act.put ⟨tmps, ds⟩ o.dst v).tmps w') ∧ (growOp Λ o = true → Ext w w')) : OpOk P Λ B X w0 o tmps ds w st' := by
  obtain ⟨fn, c, r1, r2, r3⟩ := hruns
  intro K Q hK
  unfold Oper.wp
  have hrun : (execOp (⟨tmps, ds⟩ : Act).eval o).run P w = .ok (.enter f ⟨args.map (⟨tmps, ds⟩ : Act).eval ++ caps⟩) w := by
    simp only [execOp, ho]
    simp [resolve, invoke, Deferred.ofValue, hfo, run_callFunc r1 r2 r3]
  rw [hrun, Oper.upon_enter]
  refine hcall.mono fun e w' hpost => ?_
  obtain ⟨v, he, ⟨S', ν', hi⟩, hext⟩ := hpost
  subst he
  show K (Act.put ⟨tmps, ds⟩ o.dst v) w'
  rw [act_eta]
  exact hK _ _ _ _ hi hext
theorem evCallV_ok (hT : ∀ f fa, T f = some fa → CalleeOk P f fa) (h : Inv B X w0 S ν st tmps w) {o : Oper} {fo : Operand} {args : List Operand} {ts : Array TypeId} (ho : o.op = .call { callee := .value fo, args := ⟨args⟩, argTypes := ts })
    (hr : (evCallV T st o.dst fo args).run = some st') : OpOk P Λ B X w0 o tmps ds w st' := by
  unfold evCallV at hr
  split at hr
  · rename_i fr g p x hfo
    have hs : RdV w (Av S B fr) (.fn g p) x _ := opd_ok (ds := ds) h hfo
    obtain ⟨cs, h1, h2⟩ := hs
    unfold Rd at h1
    obtain ⟨vs, e, h1⟩ := h1
    rw [e] at h2
    have h2 : (⟨tmps, ds⟩ : Act).eval fo = .func (.func g) #[] vs.toArray := h2
    split at hr
    · rename_i fa hfa
      have hF : FunOk P g fa := hT g _ hfa
      split at hr
      · rename_i y hy
        obtain ⟨r, hFr, hr⟩ := run_bnd hr
        have hargs := evArgsC_ok (ds := ds) h (h1.keep (Nat.le_refl _) (fun _ _ h => h.elim) (fun _ _ _ => rfl)) hy
        refine call_opV ho h2 hF.runs ((hF.calls y r hFr w ⟨_⟩ h.held hargs).mono fun e w' hp => ?_)
        obtain ⟨v, he, hb, hret⟩ := hp
        exact ⟨v, he, behind h hb hret hr, fun _ => Ext.below hb⟩
      · cases hr
    · cases hr
  · cases hr
end Go.Proofs.YtnldcpanpojeiaaGreatDoor
