/-
  A bracket's turn is the reference's.
-/
import Derived.Test.YtaahkcepdgmagaaDoorLawNeuE
namespace Go.Proofs.YtaahkcepdgmagaaDoor
set_option linter.all false

theorem cls_set {xs : List Int} {v : Int} {i : Nat} (h : Cls xs) (hv : 0 ≤ v ∧ v ≤ 22) : Cls (xs.set i v) := fun k => by
  have hk := h k
  simp only [List.getD, List.getElem?_set] at hk ⊢
  by_cases e : i = k
  · rw [if_pos e]
    by_cases e2 : i < xs.length
    · rw [if_pos e2]; exact hv
    · rw [if_neg e2]; exact ⟨by simp, by simp⟩
  · rw [if_neg e]; exact hk
theorem turn_loop (first : List Int) (v : Int) (hv : 0 ≤ v ∧ v ≤ 22) {n : Nat} (hf : first.length = n) (hn : n ≤ 4194304) (ps0 : List (List Int)) (sos own i e : Int) : ∀ (d t : Nat) (xs : List Int), n = t + d → xs.length = n →
    ∃ r, r.length = n ∧ (Cls xs → Cls r) ∧ loopW (fun s : List Int × List Int × Int × Int => (neutral_turn_L2 s.1 s.2.1 s.2.2.1 s.2.2.2).run) (xs, first, v, (t : Int)) = some r ∧
      loopW (fun s : List (List Int) × List Int × Int × List Int × Int × Int × Int × Int × Int => (ref14_Brackets_L24 s.1 s.2.1 s.2.2.1 s.2.2.2.1 s.2.2.2.2.1 s.2.2.2.2.2.1 s.2.2.2.2.2.2.1 s.2.2.2.2.2.2.2.1 s.2.2.2.2.2.2.2.2).run) (ps0, first, sos, xs, own, i, v, e, (t : Int)) = some (ps0, first, sos, r, own, i, v, e)
  | 0, t, xs, ht, hx => ⟨xs, hx, id, loopW_done (Post.run (by
      dsimp only
      unfold neutral_turn_L2
      exact Post.brF (decide_eq_false (by omega)) (Post.pure rfl))), loopW_done (Post.run (by
      dsimp only
      unfold ref14_Brackets_L24
      exact Post.brF (decide_eq_false (by omega)) (Post.pure rfl)))⟩
  | d + 1, t, xs, ht, hx => by
    have htn : t < n := by omega
    have hw : IntKind.i64.wrap ((t : Int) + 1) = ((t + 1 : Nat) : Int) := wrap_succ (by omega)
    by_cases c : first.getD t 0 = 8
    · obtain ⟨r, hr, hc, h1, h2⟩ := turn_loop first v hv hf hn ps0 sos own i e d (t + 1) (xs.set (Int.toNat (t : Int)) v) (by omega) (by rw [List.length_set]; exact hx)
      refine ⟨r, hr, fun h => hc (cls_set h hv), loopW_next (Post.run ?_) h1, loopW_next (Post.run ?_) h2⟩
      · dsimp only
        unfold neutral_turn_L2
        refine Post.brT (decide_eq_true (by omega)) (Post.idx 0 t rfl (by omega) (Post.brT (by simpa using c) (Post.idx 0 t rfl (by omega) (Post.idx 0 t rfl (by omega) (Post.pure ?_)))))
        rw [hw]
      · dsimp only
        unfold ref14_Brackets_L24
        refine Post.brT (decide_eq_true (by omega)) (Post.idx 0 t rfl (by omega) (Post.brT (by simpa using c) (Post.idx 0 t rfl (by omega) (Post.pure ?_))))
        rw [hw]
    · refine ⟨xs, hx, id, loopW_done (Post.run ?_), loopW_done (Post.run ?_)⟩
      · dsimp only
        unfold neutral_turn_L2
        exact Post.brT (decide_eq_true (by omega)) (Post.idx 0 t rfl (by omega) (Post.brF (by simpa using c) (Post.pure rfl)))
      · dsimp only
        unfold ref14_Brackets_L24
        exact Post.brT (decide_eq_true (by omega)) (Post.idx 0 t rfl (by omega) (Post.brF (by simpa using c) (Post.pure rfl)))
theorem turn_both (first out : List Int) (v : Int) (hv : 0 ≤ v ∧ v ≤ 22) {n : Nat} (hf : first.length = n) (ho : out.length = n) (hn : n ≤ 4194304) (ps0 : List (List Int)) (sos own i e : Int) {p : Nat} (hp : p < n) :
    ∃ r, r.length = n ∧ (Cls out → Cls r) ∧ neutral_turn_F out first (p : Int) v = some (r, ()) ∧
      loopW (fun s : List (List Int) × List Int × Int × List Int × Int × Int × Int × Int × Int => (ref14_Brackets_L24 s.1 s.2.1 s.2.2.1 s.2.2.2.1 s.2.2.2.2.1 s.2.2.2.2.2.1 s.2.2.2.2.2.2.1 s.2.2.2.2.2.2.2.1 s.2.2.2.2.2.2.2.2).run) (ps0, first, sos, out.set (Int.toNat (p : Int)) v, own, i, v, e, ((p + 1 : Nat) : Int)) = some (ps0, first, sos, r, own, i, v, e) := by
  obtain ⟨r, hr, hc, h1, h2⟩ := turn_loop first v hv hf hn ps0 sos own i e (n - (p + 1)) (p + 1) (out.set (Int.toNat (p : Int)) v) (by omega) (by rw [List.length_set]; exact ho)
  refine ⟨r, hr, fun h => hc (cls_set h hv), ?_, h2⟩
  unfold neutral_turn_F neutral_turn_T
  rw [wrap_succ (by omega)]
  exact Post.run (Post.idx 0 p rfl (by omega) (Post.idx 0 p rfl (by omega) (Post.bnd h1 (Post.pure rfl))))

end Go.Proofs.YtaahkcepdgmagaaDoor
