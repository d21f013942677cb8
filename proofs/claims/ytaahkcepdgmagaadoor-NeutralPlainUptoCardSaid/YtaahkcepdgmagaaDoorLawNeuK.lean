/-
  The rule of brackets is the reference's.
-/
import Derived.Test.YtaahkcepdgmagaaDoorLawNeuJ
namespace Go.Proofs.YtaahkcepdgmagaaDoor
set_option linter.all false

theorem loop_both (first : List Int) (sos e : Int) (he : e = 0 ∨ e = 1) (hs : sos = 0 ∨ sos = 1) {n : Nat} (hf : first.length = n) (hn : n ≤ 4194304) {ps : List (Int × Int)} (hp : Prs n ps) (hkn : ps.length ≤ n) : ∀ (d k : Nat) (out : List Int), ps.length = k + d → out.length = n →
    ∃ r, r.length = n ∧ (Cls out → Cls r) ∧ (∀ l, emb l = e → loopW (fun s : List Int × Int × Int × List Int × (List (Int × Int)) × Int × Int => (neutral_Brackets_L5 s.1 s.2.1 s.2.2.1 s.2.2.2.1 s.2.2.2.2.1 s.2.2.2.2.2.1 s.2.2.2.2.2.2).run) (first, l, sos, out, ps, (ps.length : Int), (k : Int)) = some r) ∧
      loopW (fun s : List (List Int) × List Int × Int × List Int × Int × Int => (ref14_Brackets_L4 s.1 s.2.1 s.2.2.1 s.2.2.2.1 s.2.2.2.2.1 s.2.2.2.2.2).run) (ps.map two', first, sos, out, e, (k : Int)) = some r
  | 0, k, out, h, ho => ⟨out, ho, id, fun l _ => loopW_done (Post.run (by
      dsimp only
      unfold neutral_Brackets_L5
      exact Post.brF (decide_eq_false (by omega)) (Post.pure rfl))), loopW_done (Post.run (by
      dsimp only
      unfold ref14_Brackets_L4
      exact Post.brF (decide_eq_false (by rw [List.length_map]; omega)) (Post.pure rfl)))⟩
  | d + 1, k, out, h, ho => by
    obtain ⟨out', ho', hc, hs1, hs2⟩ := step_both first sos e he hs hf hn hp (k := k) (by omega) hkn out ho
    obtain ⟨r, hr, hc2, hl, hl2⟩ := loop_both first sos e he hs hf hn hp hkn d (k + 1) out' (by omega) ho'
    exact ⟨r, hr, fun h => hc2 (hc h), fun l hle => loopW_next (Post.run (hs1 l hle)) (hl l hle), loopW_next (Post.run hs2) hl2⟩
theorem brackets_both (rs first cs : List Int) (sos l : Int) (hs : sos = 0 ∨ sos = 1) (hl : 0 ≤ l) {n : Nat} (h1 : rs.length = n) (h2 : first.length = n) (h3 : cs.length = n) (hn : n ≤ 4194304) (w : ∀ x ∈ rs, -2147483648 ≤ x ∧ x ≤ 2147483647) :
    ∃ r ws, r.length = n ∧ (Cls cs → Cls r) ∧ neutral_Brackets_F rs first cs l sos = some r ∧ law15_Want_F rs cs = some ws ∧ ref14_Brackets_F ws first cs l sos = some r := by
  obtain ⟨ps, hps, hw⟩ := want_same rs cs h1 h3 hn w
  obtain ⟨ps2, hps2, hp, hpl⟩ := pairs_any rs cs h1 h3 hn
  rw [hps] at hps2
  obtain rfl := Option.some.inj hps2
  have he : emb l = 0 ∨ emb l = 1 := by unfold emb; split <;> omega
  obtain ⟨r, hr, hc, hl1, hl2⟩ := loop_both first sos (emb l) he hs h2 hn hp hpl ps.length 0 cs (by omega) h3
  refine ⟨r, ps.map two', hr, hc, ?_, hw, ?_⟩
  · unfold neutral_Brackets_F neutral_Brackets_T
    exact Post.run (Post.bnd (clone_F cs (by omega)) (Post.brF (by rw [h1, h3]; simp) (Post.brF (by rw [h2, h3]; simp) (Post.bnd hps (Post.bnd (hl1 l rfl) (Post.pure rfl))))))
  · have hem : l.tmod 2 = emb l := by
      rw [Int.tmod_eq_emod_of_nonneg hl]
      unfold emb
      split <;> omega
    unfold ref14_Brackets_F ref14_Brackets_T
    rw [hem]
    exact Post.run (Post.bnd (copied_F cs (by omega)) (Post.bnd hl2 (Post.pure rfl)))

end Go.Proofs.YtaahkcepdgmagaaDoor
