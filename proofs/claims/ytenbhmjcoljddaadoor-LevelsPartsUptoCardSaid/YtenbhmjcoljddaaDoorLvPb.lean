/-
  Parts of elder texts, cut out for the levels.
-/
import Derived.Test.YtenbhmjcoljddaaDoorLvP
namespace Go.Proofs.YtenbhmjcoljddaaDoor.Pa
set_option linter.all false
theorem Paras.app {r c : Nat → Int} {n d : Nat} : ∀ {l k : List (Int × Int × Int)} {a b : Nat}, Paras r c n a l b → Paras r c n b k d → Paras r c n a (l ++ k) d
  | [], k, a, b, h, g => by
    have h : a = b := h
    subst h
    exact g
  | p :: l, k, a, b, h, g => ⟨h.1, h.2.1, h.2.2.app g⟩
def onto (n : Nat) (p : Int × Int × Int) : Int × Int × Int := (p.1 + n + 1, p.2.1 + n + 1, p.2.2)
theorem Next.onto {r c : Nat → Int} {n m a : Nat} {p : Int × Int × Int} (h : Next (fun i => r (n + 1 + i)) (fun i => c (n + 1 + i)) m a p) : Next r c (n + 1 + m) (n + 1 + a) (onto n p) := by
  rcases h with ⟨i, h1, h2, h3, h4, h5⟩ | ⟨h1, rfl⟩
  · refine .inl ⟨n + 1 + i, by omega, by omega, fun k k1 k2 => ?_, h4, ?_⟩
    · have := h3 (k - (n + 1)) (by omega) (by omega)
      simpa [show n + 1 + (k - (n + 1)) = k by omega] using this
    · have e : n + 1 + i + 1 = n + 1 + (i + 1) := by omega
      rcases h5 with ⟨u1, u2, u3, rfl⟩ | ⟨u, rfl⟩
      · exact .inl ⟨u1, by omega, by rw [e]; exact u3, Prod.ext (show (a : Int) + n + 1 = ((n + 1 + a : Nat) : Int) by omega) (Prod.ext (show ((i + 2 : Nat) : Int) + n + 1 = ((n + 1 + i + 2 : Nat) : Int) by omega) rfl)⟩
      · exact .inr ⟨fun v => u ⟨v.1, by have := v.2.1; omega, by have := v.2.2; rw [e] at this; exact this⟩, Prod.ext (show (a : Int) + n + 1 = ((n + 1 + a : Nat) : Int) by omega) (Prod.ext (show ((i + 1 : Nat) : Int) + n + 1 = ((n + 1 + i + 1 : Nat) : Int) by omega) rfl)⟩
  · refine .inr ⟨fun k k1 k2 => ?_, Prod.ext (show (a : Int) + n + 1 = ((n + 1 + a : Nat) : Int) by omega) (Prod.ext (show (m : Int) + n + 1 = ((n + 1 + m : Nat) : Int) by omega) rfl)⟩
    have := h1 (k - (n + 1)) (by omega) (by omega)
    simpa [show n + 1 + (k - (n + 1)) = k by omega] using this
theorem Paras.onto {r c : Nat → Int} {n m : Nat} : ∀ {l : List (Int × Int × Int)} {a b : Nat}, Paras (fun i => r (n + 1 + i)) (fun i => c (n + 1 + i)) m a l b → Paras r c (n + 1 + m) (n + 1 + a) (l.map (onto n)) (n + 1 + b)
  | [], a, b, h => by
    have h : a = b := h
    subst h
    rfl
  | p :: l, a, b, h => by
    obtain ⟨d, h1, h2, _, _⟩ := h.2.1.to_ h.1
    refine ⟨by have := h.1; omega, h.2.1.onto, ?_⟩
    have := h.2.2.onto
    rw [h1] at this
    have e : (Go.Proofs.YtenbhmjcoljddaaDoor.Pa.onto n p).2.1.toNat = n + 1 + d := by simp only [Go.Proofs.YtenbhmjcoljddaaDoor.Pa.onto, h1]; omega
    rw [e]
    simpa using this
theorem Next.wider {r c : Nat → Int} {n m a : Nat} {p : Int × Int × Int} (hc : c n = 10) (hr : r n ≠ 13) (ha : a < n + 1) (h : Next r c (n + 1) a p) : Next r c (n + 1 + m) a p := by
  rcases h with ⟨i, h1, h2, h3, h4, h5⟩ | ⟨h1, rfl⟩
  · refine .inl ⟨i, h1, by omega, h3, h4, ?_⟩
    rcases h5 with ⟨u1, u2, u3, rfl⟩ | ⟨u, rfl⟩
    · exact .inl ⟨u1, by omega, u3, rfl⟩
    · refine .inr ⟨fun v => ?_, rfl⟩
      by_cases e : i = n
      · subst e; exact hr v.1
      · exact u ⟨v.1, by omega, v.2.2⟩
  · exact absurd hc (h1 n (by omega) (by omega))
theorem Paras.wider {r c : Nat → Int} {n m : Nat} (hc : c n = 10) (hr : r n ≠ 13) : ∀ {l : List (Int × Int × Int)} {a b : Nat}, Paras r c (n + 1) a l b → Paras r c (n + 1 + m) a l b
  | [], a, b, h => h
  | p :: l, a, b, h => ⟨by have := h.1; omega, h.2.1.wider hc hr h.1, h.2.2.wider hc hr⟩
theorem Paras.congr {r r' c c' : Nat → Int} {n : Nat} (hr : ∀ i, i < n → r i = r' i) (hc : ∀ i, i < n → c i = c' i) : ∀ {l : List (Int × Int × Int)} {a b : Nat}, Paras r c n a l b → Paras r' c' n a l b
  | [], a, b, h => h
  | p :: l, a, b, h => ⟨h.1, next_congr hr hc h.2.1, h.2.2.congr hr hc⟩
theorem getD_left (A B : List Int) (i : Nat) (h : i < A.length) : (A ++ B).getD i 0 = A.getD i 0 := by
  simp only [List.getD]
  rw [List.getElem?_append_left h]
theorem getD_right (A B : List Int) (n i : Nat) (h : A.length = n) : (A ++ B).getD (n + i) 0 = B.getD i 0 := by
  simp only [List.getD]
  rw [List.getElem?_append_right (by omega), show n + i - A.length = i by omega]

end Go.Proofs.YtenbhmjcoljddaaDoor.Pa
