/-
  Words: the document's examples.
-/
import Derived.Test.YtbahobcalimoiaaLvWo
namespace Go.Proofs.Ytbahobcalimoiaa
set_option linter.all false
set_option maxRecDepth 100000

theorem words_at (rs : List Int) (l z : List (Int × Int)) (n : Nat) (B W : List Bool) (hn : rs.length = n) (hn2 : n ≤ 1000) (hB : clBreaks rs = B) (hl : loopF (fun s : List (Int × Int) × Int × List Bool × Int × Int => (cluster_Of_L4 s.1 s.2.1 s.2.2.1 s.2.2.2.1 s.2.2.2.2).run) (n + 2) ([], 0, B, (B.length : Int), 0) = some l)
    (hW : wb n (ksOf rs l) l l.length = W) (hz : loopF (fun s : List (Int × Int) × Int × List Bool × Int × Int => (words_Of_L4 s.1 s.2.1 s.2.2.1 s.2.2.2.1 s.2.2.2.2).run) (n + 2) ([], 0, W, (W.length : Int), 0) = some z) : words_Of_F rs = some z := by
  subst hn
  have hb := breaks_F rs (by omega)
  rw [hB] at hb
  have hcl : cluster_Of_F rs = some l := by
    unfold cluster_Of_F cluster_Of_T
    exact Post.run (Post.bnd hb (Post.bnd (loopW_eq hl) (Post.pure rfl)))
  obtain ⟨l', hl', hc⟩ := of_F rs (by omega)
  rw [hcl] at hl'
  cases hl'
  have hwb := wbreaks_F rs (by omega) hcl hc
  rw [hW] at hwb
  unfold words_Of_F words_Of_T
  exact Post.run (Post.bnd hwb (Post.bnd (loopW_eq hz) (Post.pure rfl)))
theorem words_1 : words_Of_F [105, 116, 39, 115, 32, 51, 46, 53, 44, 32, 110, 111] = some [(0, 4), (4, 5), (5, 8), (8, 9), (9, 10), (10, 12)] :=
  words_at _ [(0, 1), (1, 2), (2, 3), (3, 4), (4, 5), (5, 6), (6, 7), (7, 8), (8, 9), (9, 10), (10, 11), (11, 12)] _ 12 (List.replicate 13 true) [true, false, false, false, true, true, false, false, true, true, true, false, true] rfl (by decide) (by kernel_rfl) (by kernel_rfl) (by kernel_rfl) (by kernel_rfl)
theorem words_2 : words_Of_F [97, 46, 46, 98] = some [(0, 1), (1, 2), (2, 3), (3, 4)] :=
  words_at _ [(0, 1), (1, 2), (2, 3), (3, 4)] _ 4 (List.replicate 5 true) [true, true, true, true, true] rfl (by decide) (by kernel_rfl) (by kernel_rfl) (by kernel_rfl) (by kernel_rfl)
theorem parts_1 : law32_parts_F (ByteArray.mk #[105, 116, 39, 115, 32, 51, 46, 53, 44, 32, 110, 111]) = some (ByteArray.mk #[124, 105, 116, 39, 115, 124, 32, 124, 51, 46, 53, 124, 44, 124, 32, 124, 110, 111]) := by
  unfold law32_parts_F law32_parts_T
  have e : runesOf (ByteArray.mk #[105, 116, 39, 115, 32, 51, 46, 53, 44, 32, 110, 111]) = [105, 116, 39, 115, 32, 51, 46, 53, 44, 32, 110, 111] := by kernel_rfl
  rw [e]
  exact Post.run (Post.bnd (app_eq (by decide)) (Post.bnd words_1 (Post.altL (loopW_eq (n := 10) (by kernel_rfl)) (Post.pure rfl))))
theorem parts_2 : law32_parts_F (ByteArray.mk #[97, 46, 46, 98]) = some (ByteArray.mk #[124, 97, 124, 46, 124, 46, 124, 98]) := by
  unfold law32_parts_F law32_parts_T
  have e : runesOf (ByteArray.mk #[97, 46, 46, 98]) = [97, 46, 46, 98] := by kernel_rfl
  rw [e]
  exact Post.run (Post.bnd (app_eq (by decide)) (Post.bnd words_2 (Post.altL (loopW_eq (n := 10) (by kernel_rfl)) (Post.pure rfl))))
theorem awake32 : law32_awake_F = some true := by
  unfold law32_awake_F law32_awake_T
  exact Post.run (Post.bnd parts_1 (Post.brT (by kernel_rfl) (Post.bnd parts_2 (Post.pure (by kernel_rfl)))))

end Go.Proofs.Ytbahobcalimoiaa
