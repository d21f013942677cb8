/-
  Functions that take over their first argument, a row.
-/
import Derived.Test.YtnldcpanpojeiaaGreatDoorEvMainH
namespace Go.Proofs.YtnldcpanpojeiaaGreatDoor
open Go.RowKit
variable {P : Program} {G : Ctx} {A : Ann} {L : Nat → Option LoopAnn} {T : FuncId → Option Callee} {B : Nat} {X : Lnt} {w0 w w' : World} {S S' : Nat → Prop} {ν : Nat → Value} {st st' : St} {tmps : Array Value} {ds : List Deferred}
theorem startT_ok {v : Value} {eid : TypeId} {e : Ty} {xs : List e.I} (hla : HeldIn w.heap.size (takeLnt v) w) (hlt : ∀ b, S b → b < w.heap.size) (hv : ∀ b, v.ownBlock = some b → S b) (ho : ObjRd 0 w (fun _ => False) v ⟨eid, true, e, xs⟩) (hf : e.flat = true)
    {ps : List Ty} {x : Tys.I ps} {args : List Value} (h : ArgsRdS w S ps x args) (n : Nat) :
    ∃ ν, Inv w.heap.size (takeLnt v) w S ν ((({ env := .undef :: argSlots ps x ++ List.replicate (n - (ps.length + 1)) .undef, objs := [] } : St).new takeTag ⟨eid, true, e, xs⟩).set 0 (.ref takeTag)) ((⟨v :: args⟩ : Array Value) ++ Array.replicate (n - (⟨v :: args⟩ : Array Value).size) undef) w := by
  have hl := argsS_len h
  have hsz : (⟨v :: args⟩ : Array Value).size = ps.length + 1 := by simp [hl]
  have h0 : Inv w.heap.size (takeLnt v) w S (fun _ => undef) { env := .undef :: argSlots ps x ++ List.replicate (n - (ps.length + 1)) .undef, objs := [] } ((⟨v :: args⟩ : Array Value) ++ Array.replicate (n - (⟨v :: args⟩ : Array Value).size) undef) w := by
    refine ⟨⟨rfl, rfl, rfl, Nat.le_refl _, fun _ _ _ _ => rfl, fun b' hbb => by cases hbb⟩, ⟨Nat.le_refl _, hla⟩, by simp [argSlots_len, hl]; omega, fun i s hi => ?_, (fun g o ho => by cases ho), (fun g o b ho => by cases ho), hlt, (fun o' ho => by cases ho), ⟨(fun b' hbb => by cases hbb), fun b' hbb => hbb.elim⟩, (fun c hc => by
      have hc : v.ownBlock = some c := hc
      exact ⟨hv c hc, hlt c (hv c hc), by simp [takeLnt, Value.ownBlock]⟩), (fun g o b ho => by cases ho), (fun q hq => by cases hq), (fun g h o p b ho => by cases ho)⟩
    have hel : (Slot.undef :: argSlots ps x).length = ps.length + 1 := by simp [argSlots_len]
    rcases Nat.lt_or_ge i (ps.length + 1) with hi' | hi'
    · rw [List.getElem?_append_left (by rw [hel]; exact hi')] at hi
      cases i with
      | zero =>
        cases hi
        refine ⟨v, ?_, trivial⟩
        rw [Array.getElem?_append_left (by omega), ← Array.getElem?_toList]
        rfl
      | succ i =>
        obtain ⟨t, y, u, rfl, h1, h2⟩ := argSlotsS_get h i s hi
        refine ⟨u, ?_, h2.keep (Nat.le_refl _) (fun b _ hb => av_false hb) (fun _ _ _ => rfl)⟩
        rw [Array.getElem?_append_left (by omega), ← Array.getElem?_toList]
        exact h1
    · rw [List.getElem?_append_right (by rw [hel]; exact hi'), hel, List.getElem?_replicate] at hi
      split at hi
      · rename_i hlt
        cases hi
        refine ⟨undef, ?_, trivial⟩
        rw [Array.getElem?_append_right (by omega), Array.getElem?_replicate, if_pos (by omega)]
      · cases hi
  have hobj : ObjRd w.heap.size w S v ⟨eid, true, e, xs⟩ := by
    obtain ⟨cs, k1, k2⟩ := ho
    exact ⟨cs, k1, k2.flat hf⟩
  have h1 := h0.adopt takeTag hobj hv (fun g p b _ hp => by cases hp) (fun b hb => .inr ⟨rfl, hb⟩)
  have h2 := set_ref h1 (tag := takeTag) look_new 0
  rw [upd_same] at h2
  have he : (((⟨v :: args⟩ : Array Value) ++ Array.replicate (n - (⟨v :: args⟩ : Array Value).size) undef).setIfInBounds 0 v) = ((⟨v :: args⟩ : Array Value) ++ Array.replicate (n - (⟨v :: args⟩ : Array Value).size) undef) := by
    apply Array.ext_getElem?
    intro i
    rw [Array.getElem?_setIfInBounds]
    by_cases hi : 0 = i
    · subst hi
      rw [if_pos rfl, if_pos (by simp; omega), Array.getElem?_append_left (by omega), ← Array.getElem?_toList]
      rfl
    · rw [if_neg hi]
  rw [he] at h2
  exact ⟨_, h2⟩
theorem evFunT_ok (hm : P.follows .mixedOrders = true) (hG : CtxOk P G) (hT : ∀ f fa, T f = some fa → CalleeOk P f fa ∧ (fa.isPlain = false → inList f A.lents = true)) {f : FuncId} {fn : Func} (hf : P.funcs[f]? = some fn) (hname : (fn.name == "runtime.NumGoroutine") = false) {eid : TypeId} {e : Ty} {ps : List Ty}
    (F : List e.I → Tys.I ps → Option (List e.I)) (hF : ∀ y x, (evFunT G T A L fn eid e ps y x).run = F y x) (hb : fn.body.isSome = true) : TakeOk P f ⟨eid, e, ps, F⟩ := by
  cases hc : fn.body with
  | none => rw [hc] at hb; cases hb
  | some c =>
    refine ⟨⟨fn, c, hf, hname, hc⟩, fun hfl xs x r hx w S v args hla hlt hv hobj hargs => ?_⟩
    have hx : F xs x = some r := hx
    rw [← hF] at hx
    obtain ⟨ν0, hstart⟩ := startT_ok hla hlt hv hobj hfl hargs fn.ntmps
    unfold evFunT at hx
    rw [hc] at hx
    dsimp only at hx
    obtain ⟨⟨ex, st'⟩, k1, k2⟩ := run_bind hx
    refine calls_of_wp hf hc (sim_code (ds := []) hm hG hT c hstart k1 fun S' ν' tmps' w' h' => ?_)
    have fin : (match fn.results.toList with
        | [v] => (match resSlot G st' v with | some s => (match retT st' eid e s with | some y => (Tr.pure y : Tr (List e.I)) | none => .fail) | none => .fail)
        | _ => .fail).run = some r →
        ∃ u, (results fn tmps').run P w' = .ok u w' ∧ ∃ v', Ending.returned u = .returned v' ∧ Kept w.heap.size (takeLnt v) w w' ∧ ObjRd 0 w' (fun _ => False) v' ⟨eid, true, e, r⟩ ∧ ∀ b, v'.ownBlock = some b → v.ownBlock = some b ∨ w.heap.size ≤ b := by
      intro hr
      split at hr
      · rename_i rv hrv
        split at hr
        · rename_i s hs
          split at hr
          · rename_i y hy
            cases hr
            obtain ⟨u, h1, h2⟩ := resSlot_ok hG h' hs
            have hres : (results fn tmps').run P w' = .ok u w' := res_run (vs := [u]) (by rw [hrv]; exact ⟨u, [], rfl, h1, rfl⟩)
            refine ⟨u, hres, u, rfl, h'.fr, ?_⟩
            unfold retT at hy
            split at hy
            · cases hy
              have h2 : u = .slice none 0 0 := h2
              subst h2
              exact ⟨⟨[], World.ownsRow_nil w' 0 eid e.size, fun j x hj => by simp at hj⟩, fun b hb => by cases hb⟩
            · rename_i g
              split at hy
              · rename_i o ho
                split at hy
                · rename_i hid
                  have hid1 := nbeq.1 hid
                  obtain ⟨eid', fr, e', xs0⟩ := o
                  have he := cast_self hy
                  dsimp only at he
                  cases he
                  have := cast_same hy
                  dsimp only at this
                  subst this
                  have hid2 : eid' = eid := hid1
                  subst hid2
                  obtain ⟨e1, _⟩ : u = ν' g ∧ ∃ o, olook g st'.objs = some o := h2
                  subst e1
                  obtain ⟨cs, k1, k2⟩ := h'.obj g _ ho
                  refine ⟨⟨cs, k1, k2.flat hfl⟩, fun b hb => ?_⟩
                  rcases h'.nw g _ b ho hb with e | ⟨_, e⟩
                  · exact .inr e
                  · exact .inl e
                · cases hy
              · cases hy
            · cases hy
          · cases hr
        · cases hr
      · cases hr
    cases ex with
    | normal =>
      obtain ⟨u, h1, h2⟩ := fin k2
      exact ⟨rfl, u, h1, h2⟩
    | ret =>
      obtain ⟨u, h1, h2⟩ := fin k2
      exact ⟨rfl, u, h1, h2⟩
    | exit i => cases k2
end Go.Proofs.YtnldcpanpojeiaaGreatDoor
