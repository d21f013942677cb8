/-
  Functions that write to their first argument, a row of flat elements.
-/
import Derived.Test.YtnldcpanpojeiaaGreatDoorEvTwin
namespace Go.Proofs.YtnldcpanpojeiaaGreatDoor
open Go.RowKit
variable {P : Program} {G : Ctx} {A : Ann} {L : Nat → Option LoopAnn} {T : FuncId → Option Callee} {B : Nat} {X : Lnt} {w0 w w' : World} {S S' : Nat → Prop} {ν : Nat → Value} {st st' : St} {tmps : Array Value} {ds : List Deferred}
theorem argsS_len : ∀ {ps : List Ty} {x : Tys.I ps} {vs : List Value}, ArgsRdS w S ps x vs → vs.length = ps.length
  | [], _, vs, h => by
    have h : vs = [] := h
    subst h; rfl
  | t :: r, x, vs, h => by
    obtain ⟨v, us, rfl, _, h2⟩ := h
    show us.length + 1 = r.length + 1
    rw [argsS_len h2]
theorem argSlotsS_get : ∀ {ps : List Ty} {x : Tys.I ps} {vs : List Value}, ArgsRdS w S ps x vs → ∀ (i : Nat) (s : Slot), (argSlots ps x)[i]? = some s → ∃ t y v, s = .val false t y ∧ vs[i]? = some v ∧ RdV w S t y v
  | [], _, vs, _, i, s, hs => by
    exact absurd hs (by rw [show argSlots [] _ = [] from rfl]; simp)
  | t :: r, x, vs, h, i, s, hs => by
    obtain ⟨v, us, rfl, h1, h2⟩ := h
    cases i with
    | zero => cases hs; exact ⟨t, x.1, v, rfl, rfl, h1⟩
    | succ i => exact argSlotsS_get h2 i s hs
theorem av_false {b : Nat} (h : Av S B false b) : S b := by
  rcases h with h | ⟨h, _⟩
  · exact h
  · cases h
theorem startL_ok (hla : HeldIn w.heap.size X w) (hM : ∀ b, ¬ X.more b ∧ ¬ X.av b) {o : Obj} (hb : ∀ b, X.v.ownBlock = some b → S b) (hlt : ∀ b, S b → b < w.heap.size) (hw : WinRd w S X o) {ps : List Ty} {x : Tys.I ps} {args : List Value} (h : ArgsRdS w S ps x args) (n : Nat) :
    Inv w.heap.size X w S (fun _ => undef) { env := .lref :: argSlots ps x ++ List.replicate (n - (ps.length + 1)) .undef, objs := [], lent := some o } ((⟨X.v :: args⟩ : Array Value) ++ Array.replicate (n - (⟨X.v :: args⟩ : Array Value).size) undef) w := by
  have hl := argsS_len h
  have hsz : (⟨X.v :: args⟩ : Array Value).size = ps.length + 1 := by simp [hl]
  refine ⟨⟨rfl, rfl, rfl, Nat.le_refl _, fun _ _ _ _ => rfl, fun b hbb => ?_⟩, ⟨Nat.le_refl _, hla⟩, by simp [argSlots_len, hl]; omega, fun i s hi => ?_, (fun g o ho => by cases ho), (fun g o b ho => by cases ho), hlt, (fun o' ho => by cases ho; exact hw.weak fun b hb => av_false hb), ⟨fun b hbb => ⟨hb b hbb, hlt b (hb b hbb)⟩, fun b h => absurd h (hM b).2⟩, (fun b h => absurd h (hM b).1), (fun g o b ho => by cases ho), (fun q hq => by cases hq), (fun g h o p b ho => by cases ho)⟩
  · obtain ⟨cs, _, _, hw2⟩ := hw
    rcases hw2 with ⟨e, _⟩ | ⟨b', cap, cur, e, _, _, hblk, _⟩
    · rw [e] at hbb; simp [Value.ownBlock] at hbb
    · rw [e] at hbb
      cases hbb
      exact ⟨cur, cur, _, hblk, hblk, rfl, fun _ _ => rfl⟩
  · have hel : (Slot.lref :: argSlots ps x).length = ps.length + 1 := by simp [argSlots_len]
    rcases Nat.lt_or_ge i (ps.length + 1) with hi' | hi'
    · rw [List.getElem?_append_left (by rw [hel]; exact hi')] at hi
      cases i with
      | zero =>
        cases hi
        refine ⟨X.v, ?_, rfl⟩
        rw [Array.getElem?_append_left (by omega), ← Array.getElem?_toList]
        rfl
      | succ i =>
        obtain ⟨t, y, v, rfl, h1, h2⟩ := argSlotsS_get h i s hi
        refine ⟨v, ?_, h2.keep (Nat.le_refl _) (fun b _ hb => av_false hb) (fun _ _ _ => rfl)⟩
        rw [Array.getElem?_append_left (by omega), ← Array.getElem?_toList]
        exact h1
    · rw [List.getElem?_append_right (by rw [hel]; exact hi'), hel, List.getElem?_replicate] at hi
      split at hi
      · rename_i hlt
        cases hi
        refine ⟨undef, ?_, trivial⟩
        rw [Array.getElem?_append_right (by omega), Array.getElem?_replicate, if_pos (by omega)]
      · cases hi
theorem win_eid {S0 : Nat → Prop} {eid eid' : TypeId} {fr fr' : Bool} {e : Ty} {xs ys : List e.I} (hK : Kept B X w w') (h0 : WinRd w S0 X ⟨eid, fr, e, xs⟩) (h1 : WinRd w' S X ⟨eid', fr', e, ys⟩) : WinRd w' S X ⟨eid, false, e, ys⟩ := by
  obtain ⟨cs, k1, k2, k3⟩ := h1
  refine ⟨cs, k1, k2, ?_⟩
  rcases k3 with k3 | ⟨b, cap, cur, e1, e2, e3, e4, e5, e6⟩
  · exact .inl k3
  · have hXb : X.v.ownBlock = some b := by rw [e1]; rfl
    obtain ⟨c1, c2, eid1, g1, g2, _⟩ := hK.win b hXb
    have hid : eid' = eid1 := by
      rw [e4] at g2
      injection g2 with g2
      injection g2
    have hid0 : eid = eid1 := by
      obtain ⟨_, _, _, h3⟩ := h0
      rcases h3 with ⟨j1, _⟩ | ⟨b', cap', cur', j1, _, _, j4, _⟩
      · rw [j1] at e1; cases e1
      · rw [j1] at hXb
        cases hXb
        rw [j4] at g1
        injection g1 with g1
        injection g1
    exact .inr ⟨b, cap, cur, e1, e2, e3, by rw [hid0, ← hid]; exact e4, e5, e6⟩
theorem evFunL_ok (hm : P.follows .mixedOrders = true) (hG : CtxOk P G) (hT : ∀ f fa, T f = some fa → CalleeOk P f fa ∧ (fa.isPlain = false → inList f A.lents = true)) {f : FuncId} {fn : Func} (hf : P.funcs[f]? = some fn) (hname : (fn.name == "runtime.NumGoroutine") = false) {eid : TypeId} {e : Ty} (he : e.flat = true) {ps : List Ty} {rs : List RTy}
    (F : List e.I → Tys.I ps → Option (List e.I × RTys.I rs)) (hF : ∀ xs x, (evFunL G T A L fn eid e ps rs xs x).run = F xs x) (hb : fn.body.isSome = true) : LentOk P f ⟨eid, e, ps, rs, F⟩ := by
  cases hc : fn.body with
  | none => rw [hc] at hb; cases hb
  | some c =>
    refine ⟨⟨fn, c, hf, hname, hc⟩, fun xs x r hx w S X args hla hM hXS hlt hw hargs => ?_⟩
    have hx : F xs x = some r := hx
    rw [← hF] at hx
    have hstart := startL_ok hla hM hXS hlt hw hargs fn.ntmps
    unfold evFunL at hx
    rw [hc] at hx
    dsimp only at hx
    obtain ⟨⟨ex, st'⟩, k1, k2⟩ := run_bind hx
    obtain ⟨⟨st2, y⟩, k3, k4⟩ := run_bind k2
    refine calls_of_wp hf hc (sim_code (ds := []) hm hG hT c hstart k1 fun S' ν' tmps' w' h' => ?_)
    have fin : (if nodupTags (rowTags G st' rs fn.results.toList) then (match retAll G st' rs fn.results.toList with | some y => (Tr.pure (st', y) : Tr (St × RTys.I rs)) | none => .fail) else .fail).run = some (st2, y) →
        ∃ v, (results fn tmps').run P w' = .ok v w' ∧ ∃ v' vs, Ending.returned v = .returned v' ∧ Kept w.heap.size X w w' ∧ WinRd w' (fun b => S b ∨ b ∈ rowBlocks rs vs) X ⟨eid, false, e, r.1⟩ ∧ RetOf w.heap.size w' rs r.2 v' vs := by
      intro hr
      split at hr
      · rename_i hn
        split at hr
        · rename_i y' hy
          cases hr
          obtain ⟨vs, m1, _, m3, m4⟩ := retAll_ok hG h' (S1 := S') (fun _ h => h) hy
          have hsub : ∀ b, b ∈ rowBlocks rs vs → S' b := fun b hb => by
            obtain ⟨g, o, _, e1, e2⟩ := m3 b hb
            exact h'.own g o b e1 e2
          obtain ⟨vs2, q1, q2, _, _⟩ := retAll_ok hG h' (S1 := fun b => b ∈ rowBlocks rs vs) hsub hy
          have huniq : ∀ (l : List ResultVar) (us vs : List Value), AllRes P tmps' w' l us → AllRes P tmps' w' l vs → us = vs := by
            intro l
            induction l with
            | nil =>
              intro us vs h1 h2
              have h1 : us = [] := h1
              have h2 : vs = [] := h2
              rw [h1, h2]
            | cons r l ih =>
              rintro _ _ ⟨v, us, rfl, a1, a2⟩ ⟨v', us', rfl, b1, b2⟩
              have a1 : (resSem tmps' r).run P w' = .ok v w' := a1
              have b1 : (resSem tmps' r).run P w' = .ok v' w' := b1
              rw [a1] at b1
              injection b1 with b1
              rw [b1, ih _ _ a2 b2]
          have := huniq _ _ _ q1 m1
          subst this
          have hlen : vs2.length = rs.length := q2.len
          dsimp only at k4
          split at k4
          · rename_i o ho
            split at k4
            · rename_i ys hys
              cases k4
              have hwin := h'.win o ho
              obtain ⟨eid', fr, e', xs'⟩ := o
              have hee := cast_self hys
              cases hee
              have := cast_same hys
              subst this
              refine ⟨_, res_run m1, _, vs2, rfl, h'.fr, (win_eid h'.fr hw hwin).flat he, ?_, m4 (nodup_tags hn), q2⟩
              match rs, vs2, hlen with
              | [], [], _ => rfl
              | [_], [_], _ => rfl
              | _ :: _ :: _, _ :: _ :: _, _ => rfl
            · cases k4
          · cases k4
        · cases hr
      · cases hr
    cases ex with
    | normal =>
      obtain ⟨v, h1, u, vs, h2, h3⟩ := fin k3
      exact ⟨rfl, v, h1, u, vs, h2, h3⟩
    | ret =>
      obtain ⟨v, h1, u, vs, h2, h3⟩ := fin k3
      exact ⟨rfl, v, h1, u, vs, h2, h3⟩
    | exit i => cases k3
end Go.Proofs.YtnldcpanpojeiaaGreatDoor
