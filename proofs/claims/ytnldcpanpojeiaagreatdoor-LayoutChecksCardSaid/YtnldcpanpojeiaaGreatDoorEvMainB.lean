/-
  Functions that write to what their first argument, a pointer, leads to: a box of flat data.
-/
import Derived.Test.YtnldcpanpojeiaaGreatDoorEvMainL
namespace Go.Proofs.YtnldcpanpojeiaaGreatDoor
open Go.RowKit
variable {P : Program} {G : Ctx} {A : Ann} {L : Nat → Option LoopAnn} {T : FuncId → Option Callee} {B : Nat} {X : Lnt} {w0 w w' : World} {S S' : Nat → Prop} {ν : Nat → Value} {st st' : St} {tmps : Array Value} {ds : List Deferred}
theorem startB_ok {b k m : Nat} {e : Ty} (hla : HeldIn w.heap.size ⟨.slice (some ⟨b, k, none⟩) 1 1, k, m, fun _ => False, fun _ => False⟩ w) {o : Obj} (hb : S b) (hlt : ∀ b, S b → b < w.heap.size) (hw : WinRd w S ⟨.slice (some ⟨b, k, none⟩) 1 1, k, m, fun _ => False, fun _ => False⟩ o) {ps : List Ty} {x : Tys.I ps} {args : List Value} (h : ArgsRdS w S ps x args) (n : Nat) :
    Inv w.heap.size ⟨.slice (some ⟨b, k, none⟩) 1 1, k, m, fun _ => False, fun _ => False⟩ w S (fun _ => undef) { env := .leptr 0 e [] e :: argSlots ps x ++ List.replicate (n - (ps.length + 1)) .undef, objs := [], lent := some o } ((⟨.pointer (some ⟨b, k, none⟩) :: args⟩ : Array Value) ++ Array.replicate (n - (⟨.pointer (some ⟨b, k, none⟩) :: args⟩ : Array Value).size) undef) w := by
  have hl := argsS_len h
  have hsz : (⟨.pointer (some ⟨b, k, none⟩) :: args⟩ : Array Value).size = ps.length + 1 := by simp [hl]
  have hX : ∀ b', (Lnt.mk (.slice (some ⟨b, k, none⟩) 1 1) k m (fun _ => False) (fun _ => False)).v.ownBlock = some b' → b' = b := fun b' h => by cases h; rfl
  refine ⟨⟨rfl, rfl, rfl, Nat.le_refl _, fun _ _ _ _ => rfl, fun b' hbb => ?_⟩, ⟨Nat.le_refl _, hla⟩, by simp [argSlots_len, hl]; omega, fun i s hi => ?_, (fun g o ho => by cases ho), (fun g o b ho => by cases ho), hlt, (fun o' ho => by cases ho; exact hw.weak fun b hb => av_false hb), ⟨fun b' hbb => by rw [hX b' hbb]; exact ⟨hb, hlt b hb⟩, fun b' hbb => hbb.elim⟩, (fun b h => h.elim), (fun g o b ho => by cases ho), (fun q hq => by cases hq), (fun g h o p b ho => by cases ho)⟩
  · obtain ⟨cs, _, _, hw2⟩ := hw
    rcases hw2 with ⟨e, _⟩ | ⟨b2, cap, cur, e, _, _, hblk, _⟩
    · rw [e] at hbb; simp [Value.ownBlock] at hbb
    · rw [e] at hbb
      cases hbb
      exact ⟨cur, cur, _, hblk, hblk, rfl, fun _ _ => rfl⟩
  · have hel : (Slot.leptr 0 e [] e :: argSlots ps x).length = ps.length + 1 := by simp [argSlots_len]
    rcases Nat.lt_or_ge i (ps.length + 1) with hi' | hi'
    · rw [List.getElem?_append_left (by rw [hel]; exact hi')] at hi
      cases i with
      | zero =>
        cases hi
        refine ⟨.pointer (some ⟨b, k, none⟩), ?_, ⟨b, 1, 1, rfl, Int.le_refl 0, by rw [offAt_nil]; simp, by cases e <;> rfl⟩⟩
        rw [Array.getElem?_append_left (by omega), ← Array.getElem?_toList]
        rfl
      | succ i =>
        obtain ⟨t, y, v, rfl, h1, h2⟩ := argSlotsS_get h i s hi
        refine ⟨v, ?_, h2.keep (Nat.le_refl _) (fun b _ hb => av_false hb) (fun _ _ _ => rfl)⟩
        rw [Array.getElem?_append_left (by omega), ← Array.getElem?_toList]
        exact h1
    · rw [List.getElem?_append_right (by rw [hel]; exact hi'), hel, List.getElem?_replicate] at hi
      split at hi
      · rename_i hlt
        cases hi
        refine ⟨undef, ?_, trivial⟩
        rw [Array.getElem?_append_right (by omega), Array.getElem?_replicate, if_pos (by omega)]
      · cases hi
theorem box_same {eid : TypeId} {fr : Bool} {e' : Ty} {xs' : List e'.I} {z : e'.I} {e : Ty} {z' : e.I} (hz : xs' = [z]) (hc : Ty.cast e' e z = some z') : (⟨eid, fr, e', xs'⟩ : Obj) = ⟨eid, fr, e, [z']⟩ := by
  subst hz
  have := cast_self hc
  subst this
  have := cast_same hc
  subst this
  rfl
theorem evFunB_ok (hm : P.follows .mixedOrders = true) (hG : CtxOk P G) (hT : ∀ f fa, T f = some fa → CalleeOk P f fa ∧ (fa.isPlain = false → inList f A.lents = true)) {f : FuncId} {fn : Func} (hf : P.funcs[f]? = some fn) (hname : (fn.name == "runtime.NumGoroutine") = false) {eid : TypeId} {e : Ty} (he : e.flat = true) {ps : List Ty} {rs : List RTy}
    (F : e.I → Tys.I ps → Option (e.I × RTys.I rs)) (hF : ∀ y x, (evFunB G T A L fn eid e ps rs y x).run = F y x) (hb : fn.body.isSome = true) : BoxOk P f ⟨eid, e, ps, rs, F⟩ := by
  cases hc : fn.body with
  | none => rw [hc] at hb; cases hb
  | some c =>
    refine ⟨⟨fn, c, hf, hname, hc⟩, fun y x r hx w S b k args hla hXS hlt hw hargs => ?_⟩
    have hx : F y x = some r := hx
    rw [← hF] at hx
    have hstart := startB_ok (e := e) hla hXS hlt hw hargs fn.ntmps
    unfold evFunB at hx
    rw [hc] at hx
    dsimp only at hx
    obtain ⟨⟨ex, st'⟩, k1, k2⟩ := run_bind hx
    obtain ⟨⟨st2, y'⟩, k3, k4⟩ := run_bind k2
    refine calls_of_wp hf hc (sim_code (ds := []) hm hG hT c hstart k1 fun S' ν' tmps' w' h' => ?_)
    have fin : (if nodupTags (rowTags G st' rs fn.results.toList) then (match retAll G st' rs fn.results.toList with | some y => (Tr.pure (st', y) : Tr (St × RTys.I rs)) | none => .fail) else .fail).run = some (st2, y') →
        ∃ v, (results fn tmps').run P w' = .ok v w' ∧ ∃ v' vs, Ending.returned v = .returned v' ∧ Kept w.heap.size ⟨.slice (some ⟨b, k, none⟩) 1 1, k, e.size, fun _ => False, fun _ => False⟩ w w' ∧ WinRd w' (fun b => S b ∨ b ∈ rowBlocks rs vs) ⟨.slice (some ⟨b, k, none⟩) 1 1, k, e.size, fun _ => False, fun _ => False⟩ ⟨eid, false, e, [r.1]⟩ ∧ RetOf w.heap.size w' rs r.2 v' vs := by
      intro hr
      split at hr
      · rename_i hn
        split at hr
        · rename_i y2 hy
          cases hr
          obtain ⟨vs, m1, _, m3, m4⟩ := retAll_ok hG h' (S1 := S') (fun _ h => h) hy
          have hsub : ∀ b, b ∈ rowBlocks rs vs → S' b := fun b hb => by
            obtain ⟨g, o, _, e1, e2⟩ := m3 b hb
            exact h'.own g o b e1 e2
          obtain ⟨vs2, q1, q2, _, _⟩ := retAll_ok hG h' (S1 := fun b => b ∈ rowBlocks rs vs) hsub hy
          have huniq : ∀ (l : List ResultVar) (us vs : List Value), AllRes P tmps' w' l us → AllRes P tmps' w' l vs → us = vs := by
            intro l
            induction l with
            | nil =>
              intro us vs h1 h2
              have h1 : us = [] := h1
              have h2 : vs = [] := h2
              rw [h1, h2]
            | cons r l ih =>
              rintro _ _ ⟨v, us, rfl, a1, a2⟩ ⟨v', us', rfl, b1, b2⟩
              have a1 : (resSem tmps' r).run P w' = .ok v w' := a1
              have b1 : (resSem tmps' r).run P w' = .ok v' w' := b1
              rw [a1] at b1
              injection b1 with b1
              rw [b1, ih _ _ a2 b2]
          have := huniq _ _ _ q1 m1
          subst this
          have hlen : vs2.length = rs.length := q2.len
          dsimp only at k4
          split at k4
          · rename_i o ho
            split at k4
            · rename_i z hz
              split at k4
              · rename_i z' hz'
                cases k4
                have hwin := h'.win o ho
                rw [show o = ⟨o.eid, o.fr, e, [z']⟩ from box_same hz hz'] at hwin
                refine ⟨_, res_run m1, _, vs2, rfl, h'.fr, (win_eid h'.fr hw hwin).flat he, ?_, m4 (nodup_tags hn), q2⟩
                match rs, vs2, hlen with
                | [], [], _ => rfl
                | [_], [_], _ => rfl
                | _ :: _ :: _, _ :: _ :: _, _ => rfl
              · cases k4
            · cases k4
          · cases k4
        · cases hr
      · cases hr
    cases ex with
    | normal =>
      obtain ⟨v, h1, u, vs, h2, h3⟩ := fin k3
      exact ⟨rfl, v, h1, u, vs, h2, h3⟩
    | ret =>
      obtain ⟨v, h1, u, vs, h2, h3⟩ := fin k3
      exact ⟨rfl, v, h1, u, vs, h2, h3⟩
    | exit i => cases k3
end Go.Proofs.YtnldcpanpojeiaaGreatDoor
