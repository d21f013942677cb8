/-
  Functions that make a box, and give it back.
-/
import Derived.Test.YtnldcpanpojeiaaGreatDoorEvMainB
namespace Go.Proofs.YtnldcpanpojeiaaGreatDoor
open Go.RowKit
variable {P : Program} {G : Ctx} {A : Ann} {L : Nat → Option LoopAnn} {T : FuncId → Option Callee} {B : Nat} {X : Lnt} {w0 w w' : World} {S S' : Nat → Prop} {ν : Nat → Value} {st st' : St} {tmps : Array Value} {ds : List Deferred}
theorem retPtr_ok (h : Inv B X w0 S ν st tmps w) {hs : List (Nat × TypeId)} {p : Ty} {y : p.I} {s : Slot} {v : Value} (hsl : SlotRd B X w S ν st.objs s v) (hx : retPtr st hs p s = some y) : RdV w (fun b => b < B) (.ptr p) y v := by
  unfold retPtr at hx
  split at hx
  · rename_i g u sn
    obtain ⟨o1, b, n, cap, el, p1, p2, p3, p4, p5, p6, _⟩ := hsl
    split at hx
    · rename_i o ho
      rw [ho] at p1
      have e0 : o1 = o := by injection p1 with p1; exact p1.symm
      subst e0
      split at hx
      · cases hx
      · rename_i htk
        have htk : isTk g = false := by simpa using htk
        obtain ⟨q1, q2, q3, q4⟩ := boxFull_spec hx
        have hobj : ObjRd B w S (ν g) ⟨o1.eid, true, holeT p, [strip p y]⟩ := obj_weak (h.obj g o1 ho) (by rw [q2]; simp) q3
        obtain ⟨us, k1, k2⟩ := obj_at hobj p2 (i := 0) rfl (path := []) (getAt_nil _ _)
        have hB : ∀ c, (ν g).ownBlock = some c → B ≤ c := fun c hc => (h.nw g o1 c ho hc).resolve_right fun h => by rw [htk] at h; cases h.1
        have hb : (ν g).ownBlock = some b := by rw [p2]; rfl
        refine ⟨[.pointer (some ⟨b, 0, none⟩)], ?_, ?_⟩
        · unfold Rd
          refine ⟨⟨b, 0, none⟩, rfl, fun hlt => ?_, h.lt b (h.own g o1 b ho hb), us, ?_, fun i u hu => ?_⟩
          · have := hB b hb
            have hlt : b < B := hlt
            omega
          · refine fill_rd (S := Av S B true) (k := 0) q2 k1 fun q hq => ?_
            obtain ⟨ro, r1, r2, r3, r4, r5⟩ := q4 q hq
            obtain ⟨hcell, hlook⟩ := h.rowAt r1 (bo := some g) (b := b) (k0 := 0) ⟨⟨_, ho⟩, ⟨n, cap, p2⟩, rfl⟩
            have hlen : us.length = p.size := by rw [k1.len, holeT_size]
            have hkey := rows_key hq
            have hlt : q.1 < us.length := by omega
            have hc := k2 q.1 us[q.1] (List.getElem?_eq_getElem hlt)
            rw [Nat.zero_add] at hcell
            rw [offAt_nil, Nat.zero_mul, Nat.zero_add, hcell] at hc
            have hrB : ∀ c, (ν ro.1).ownBlock = some c → B ≤ c := fun c hc => (h.nw ro.1 ro.2 c hlook hc).resolve_right fun h => by
              rcases r5 with r5 | r5
              · cases r5
              · rw [r5] at h; cases h.1
            refine ⟨ν ro.1, ?_, ?_⟩
            · rw [Nat.sub_zero, List.getElem?_eq_getElem hlt]
              exact hc.symm
            · rw [r2]
              exact row_val (h.obj _ _ hlook) r4 hrB
          · have := k2 i u hu
            rw [offAt_nil, Nat.zero_mul, Nat.zero_add] at this
            rw [addr_add, Nat.zero_add]
            exact this
        · have : v = .pointer (some ⟨b, (0 : Int).toNat * o1.e.size + offAt o1.e [], none⟩) := p4
          rw [this, offAt_nil]
          simp [mkV]
    · cases hx
  · cases hx
theorem evFunP_ok (hm : P.follows .mixedOrders = true) (hG : CtxOk P G) (hT : ∀ f fa, T f = some fa → CalleeOk P f fa ∧ (fa.isPlain = false → inList f A.lents = true)) {f : FuncId} {fn : Func} (hf : P.funcs[f]? = some fn) (hname : (fn.name == "runtime.NumGoroutine") = false) {ps : List Ty} {p : Ty} {hs : List (Nat × TypeId)}
    (F : Tys.I ps → Option p.I) (hF : ∀ x, (evFunP G T A L fn ps p hs x).run = F x) (hb : fn.body.isSome = true) (_hres : fn.results.size = 1) : FunOk P f ⟨ps, [.v (.ptr p)], F⟩ := by
  cases hc : fn.body with
  | none => rw [hc] at hb; cases hb
  | some c =>
    refine ⟨⟨fn, c, hf, hname, hc⟩, fun x r hx w args hla hargs => ?_⟩
    have hx : F x = some r := hx
    rw [← hF] at hx
    have hstart := start_ok hla hargs fn.ntmps
    unfold evFunP at hx
    rw [hc] at hx
    split at hx
    · rename_i c' t hc' hres
      cases hc'
      obtain ⟨⟨e, st'⟩, k1, k2⟩ := run_bind hx
      refine calls_of_wp hf hc (sim_code (ds := []) hm hG hT c hstart k1 fun S' ν' tmps' w' h' => ?_)
      have fin : (match retPtr st' hs p (st'.get t) with | some y => (Tr.pure y : Tr p.I) | none => .fail).run = some r →
          ∃ v, (results fn tmps').run P w' = .ok v w' ∧ ∃ u, Ending.returned v = .returned u ∧ Below w.heap.size w w' ∧ RetRd w.heap.size w' [.v (.ptr p)] r u := by
        intro hr
        split at hr
        · rename_i y hy
          cases hr
          obtain ⟨v, hv, hsl⟩ := h'.get t
          have hrd := retPtr_ok h' hsl hy
          have hall : AllRes P tmps' w' fn.results.toList [v] := by
            rw [hres]
            refine ⟨v, [], rfl, ?_, rfl⟩
            show (pure (tmps'.getD t undef) : Sem Value).run P w' = .ok v w'
            rw [hv]; rfl
          refine ⟨_, res_run hall, _, rfl, h'.fr.below, [v], rfl, List.nodup_nil, v, rfl, ?_⟩
          exact hrd.keep (Nat.le_refl _) (fun b _ hb => by
            rcases hb with hb | ⟨_, hb⟩
            · cases hb
            · exact hb) (fun _ _ _ => rfl)
        · cases hr
      cases e with
      | normal =>
        obtain ⟨v, h1, u, h2, h3⟩ := fin k2
        exact ⟨rfl, v, h1, u, h2, h3⟩
      | ret =>
        obtain ⟨v, h1, u, h2, h3⟩ := fin k2
        exact ⟨rfl, v, h1, u, h2, h3⟩
      | exit i => cases k2
    · cases hx
end Go.Proofs.YtnldcpanpojeiaaGreatDoor
