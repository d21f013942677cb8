/-
  Parts of elder texts, cut out for the levels.
-/
import Derived.Test.YtbahobcalimoiaaLvCd
namespace Go.Proofs.Ytbahobcalimoiaa
set_option linter.all false
theorem lc_letters : ∀ n : Fin 26, lc (97 + (n.1 : Int)) = 1 := by decide +kernel
theorem lc_letter {r : Int} (h : 97 ≤ r ∧ r ≤ 122) : lc r = 1 := by
  have := lc_letters ⟨(r - 97).toNat, by omega⟩
  dsimp only at this
  rw [show (97 : Int) + ((r - 97).toNat : Int) = r by omega] at this
  exact this
theorem parts11 : clParts (1, false, 0) 1 false = true := by kernel_rfl
theorem add01 : clAdd (0, false, 0) 1 false true = (1, false, 0) := by kernel_rfl
theorem add11 : clAdd (1, false, 0) 1 false true = (1, false, 0) := by kernel_rfl
theorem mark1 (w : Int) : clMark 1 w = false := by unfold clMark; simp
def trues (B : List Bool) : Nat → Nat
  | 0 => 0
  | k + 1 => trues B k + (if B.getD (k + 1) false then 1 else 0)
theorem trues_gap {B : List Bool} {a : Nat} : ∀ {c : Nat}, a ≤ c → (∀ j, a < j → j ≤ c → B.getD j false = false) → trues B c = trues B a
  | 0, h, _ => by rw [show a = 0 by omega]
  | c + 1, h, hf => by
    by_cases e : a = c + 1
    · rw [e]
    · show trues B c + _ = _
      rw [if_neg (by rw [hf (c + 1) (by omega) (Nat.le_refl _)]; simp), trues_gap (c := c) (by omega) (fun j h1 h2 => hf j h1 (by omega)), Nat.add_zero]
theorem Chain.count {B : List Bool} : ∀ {l : List (Int × Int)} {a b : Nat}, Chain B a l b → trues B b = trues B a + l.length
  | [], a, b, h => by
    have h : a = b := h
    subst h
    rfl
  | p :: l, a, b, h => by
    obtain ⟨_, d, _, g1, _, g3, g4, g5⟩ := h
    rw [g5.count]
    obtain ⟨c, rfl⟩ : ∃ c, d = c + 1 := ⟨d - 1, by omega⟩
    show trues B c + _ + l.length = _
    rw [if_pos g3, trues_gap (a := a) (c := c) (by omega) (fun j h1 h2 => g4 j h1 (by omega)), List.length_cons]
    omega

end Go.Proofs.Ytbahobcalimoiaa
