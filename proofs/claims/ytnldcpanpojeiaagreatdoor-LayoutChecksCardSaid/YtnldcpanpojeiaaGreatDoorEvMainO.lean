/-
  Functions whose first result may lead to what their arguments lead to.
-/
import Derived.Test.YtnldcpanpojeiaaGreatDoorEvMainT
namespace Go.Proofs.YtnldcpanpojeiaaGreatDoor
open Go.RowKit
variable {P : Program} {G : Ctx} {A : Ann} {L : Nat → Option LoopAnn} {T : FuncId → Option Callee} {B : Nat} {X : Lnt} {w0 w w' : World} {S S' : Nat → Prop} {ν : Nat → Value} {st st' : St} {tmps : Array Value} {ds : List Deferred}
def oldLnt (S : Nat → Prop) : Lnt := ⟨.slice none 0 0, 0, 0, fun _ => False, S⟩
theorem startO_ok (hla : Held w) (hlt : ∀ b, S b → b < w.heap.size) {ps : List Ty} {x : Tys.I ps} {args : List Value} (h : ArgsRdS w S ps x args) (n : Nat) :
    Inv w.heap.size (oldLnt S) w S (fun _ => undef) { env := argSlots ps x ++ List.replicate (n - ps.length) .undef, objs := [] } ((⟨args⟩ : Array Value) ++ Array.replicate (n - (⟨args⟩ : Array Value).size) undef) w := by
  have hl := argsS_len h
  have hsz : (⟨args⟩ : Array Value).size = ps.length := hl
  refine ⟨⟨rfl, rfl, rfl, Nat.le_refl _, fun _ _ _ _ => rfl, fun b' hbb => by cases hbb⟩, ⟨Nat.le_refl _, fun i c hc => ⟨hla i c hc, Held.lt (hla i c hc), by simp [oldLnt, Value.ownBlock], fun h => h⟩⟩, by simp [argSlots_len, hl], fun i s hi => ?_, (fun g o ho => by cases ho), (fun g o b ho => by cases ho), hlt, (fun o' ho => by cases ho),
    ⟨(fun b' hbb => by cases hbb), fun b hb => ⟨hb, hlt b hb, fun h => h⟩⟩, (fun b hb => hb.elim), (fun g o b ho => by cases ho), (fun q hq => by cases hq), (fun g h o p b ho => by cases ho)⟩
  rcases Nat.lt_or_ge i ps.length with hi' | hi'
  · rw [List.getElem?_append_left (by rw [argSlots_len]; exact hi')] at hi
    obtain ⟨t, y, u, rfl, h1, h2⟩ := argSlotsS_get h i s hi
    refine ⟨u, ?_, h2.keep (Nat.le_refl _) (fun b _ hb => av_false hb) (fun _ _ _ => rfl)⟩
    rw [Array.getElem?_append_left (by omega), ← Array.getElem?_toList]
    exact h1
  · rw [List.getElem?_append_right (by rw [argSlots_len]; exact hi'), argSlots_len, List.getElem?_replicate] at hi
    split at hi
    · rename_i hlt
      cases hi
      refine ⟨undef, ?_, trivial⟩
      rw [Array.getElem?_append_right (by omega), Array.getElem?_replicate, if_pos (by omega)]
    · cases hi
theorem evFunO_ok (hm : P.follows .mixedOrders = true) (hG : CtxOk P G) (hT : ∀ f fa, T f = some fa → CalleeOk P f fa ∧ (fa.isPlain = false → inList f A.lents = true)) {f : FuncId} {fn : Func} (hf : P.funcs[f]? = some fn) (hname : (fn.name == "runtime.NumGoroutine") = false) {ps : List Ty} {t : Ty} {rs : List RTy}
    (F : Tys.I ps → Option (t.I × RTys.I rs)) (hF : ∀ x, (evFunO G T A L fn ps t rs x).run = F x) (hb : fn.body.isSome = true) : OldOk P f ⟨ps, t, rs, F⟩ := by
  cases hc : fn.body with
  | none => rw [hc] at hb; cases hb
  | some c =>
    refine ⟨⟨fn, c, hf, hname, hc⟩, fun x r hx w S args hla hlt hargs => ?_⟩
    have hx : F x = some r := hx
    rw [← hF] at hx
    have hstart := startO_ok hla hlt hargs fn.ntmps
    unfold evFunO at hx
    rw [hc] at hx
    dsimp only at hx
    obtain ⟨⟨ex, st'⟩, k1, k2⟩ := run_bind hx
    refine calls_of_wp hf hc (sim_code (ds := []) hm hG hT c hstart k1 fun S' ν' tmps' w' h' => ?_)
    have fin : (match fn.results.toList with
        | v :: vs => (match resSlot G st' v with
          | some s => if (noRs rs || ownFree s) && nodupTags (rowTags G st' rs vs) then (match st'.asVal s t, retAll G st' rs vs with
            | some (_, y), some z => (Tr.pure (y, z) : Tr (t.I × RTys.I rs))
            | _, _ => .fail) else .fail
          | none => .fail)
        | [] => .fail).run = some r →
        ∃ u, (results fn tmps').run P w' = .ok u w' ∧ ∃ v0 vs, Ending.returned u = .returned (retO v0 vs) ∧ Below w.heap.size w w' ∧ (rowBlocks rs vs).Nodup ∧ RdV w' (fun b => S b ∨ b ∈ rowBlocks rs vs) t r.1 v0 ∧ RetList w.heap.size w' (· ∈ rowBlocks rs vs) rs r.2 vs := by
      intro hr
      split at hr
      · rename_i rv rvs hrv
        split at hr
        · rename_i s hs
          split at hr
          · rename_i hcond
            rw [Bool.and_eq_true, Bool.or_eq_true] at hcond
            obtain ⟨hfree, hn⟩ := hcond
            split at hr
            · rename_i fr y z hy hz
              cases hr
              obtain ⟨v0, g1, g2⟩ := resSlot_ok hG h' hs
              obtain ⟨vs, m1, _, m3, m4⟩ := retAll_ok hG h' (S1 := S') (fun _ h => h) hz
              have hsub : ∀ b, b ∈ rowBlocks rs vs → S' b := fun b hb => by
                obtain ⟨g, o, _, e1, e2⟩ := m3 b hb
                exact h'.own g o b e1 e2
              obtain ⟨vs2, q1, q2, _, _⟩ := retAll_ok hG h' (S1 := fun b => b ∈ rowBlocks rs vs) hsub hz
              have huniq : ∀ (l : List ResultVar) (us vs : List Value), AllRes P tmps' w' l us → AllRes P tmps' w' l vs → us = vs := by
                intro l
                induction l with
                | nil =>
                  intro us vs h1 h2
                  have h1 : us = [] := h1
                  have h2 : vs = [] := h2
                  rw [h1, h2]
                | cons r l ih =>
                  rintro _ _ ⟨v, us, rfl, a1, a2⟩ ⟨v', us', rfl, b1, b2⟩
                  have a1 : (resSem tmps' r).run P w' = .ok v w' := a1
                  have b1 : (resSem tmps' r).run P w' = .ok v' w' := b1
                  rw [a1] at b1
                  injection b1 with b1
                  rw [b1, ih _ _ a2 b2]
              have := huniq _ _ _ q1 m1
              subst this
              have hres : (results fn tmps').run P w' = .ok (retO v0 vs2) w' := by
                have := res_run (P := P) (w := w') (tmps := tmps') (fn := fn) (vs := v0 :: vs2) (by rw [hrv]; exact ⟨v0, vs2, rfl, g1, m1⟩)
                rw [this]
                cases vs2 <;> rfl
              have hbel : Below w.heap.size w w' := ⟨h'.fr.os, h'.fr.tape, h'.fr.output, h'.fr.size, fun k hk => h'.fr.block k hk (by simp [oldLnt, Value.ownBlock]) (fun h => h)⟩
              refine ⟨_, hres, v0, vs2, rfl, hbel, m4 (nodup_tags hn), ?_, q2⟩
              rcases hfree with hfree | hfree
              · have hrs : rs = [] := by
                  cases rs with
                  | nil => rfl
                  | cons _ _ => cases hfree
                subst hrs
                have : RdV w' S t y v0 := arg_okS h' g2 hy (Sc := S) (fun b hb => (h'.la b hb).1) (fun tag _ ho b hb e => by
                  obtain ⟨o, ho⟩ := ho
                  have h1 := h'.la b hb
                  rcases h'.nw tag o b ho e with e | ⟨_, e⟩
                  · omega
                  · exact e) (fun _ b _ e => by cases e)
                refine this.keep (Nat.le_refl _) (fun b _ hb => ?_) (fun _ _ _ => rfl)
                rcases hb with hb | hb
                · exact hb
                · have : rowBlocks [] vs2 = [] := by cases vs2 <;> rfl
                  rw [this] at hb; cases hb
              · exact (arg_okS h' g2 hy (Sc := S') (fun b hb => hb) (fun tag' ht => by
                  rcases ht with rfl | ⟨_, _, _, _, rfl⟩ <;> cases hfree) (fun ht => by
                  rcases ht with rfl | ⟨_, _, _, rfl⟩ <;> cases hfree)).keep (Nat.le_refl _) (fun b _ hb => hb.elim (fun hb => (h'.la b hb).1) (hsub b)) (fun _ _ _ => rfl)
            · cases hr
          · cases hr
        · cases hr
      · cases hr
    cases ex with
    | normal =>
      obtain ⟨u, h1, h2⟩ := fin k2
      exact ⟨rfl, u, h1, h2⟩
    | ret =>
      obtain ⟨u, h1, h2⟩ := fin k2
      exact ⟨rfl, u, h1, h2⟩
    | exit i => cases k2
end Go.Proofs.YtnldcpanpojeiaaGreatDoor
