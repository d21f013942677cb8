/-
  Letters with marks are as many clusters as letters: the law returns true.
-/
import Derived.Test.YtenopbjggdhfgaaLawCluD
namespace Go.Proofs.Ytenopbjggdhfgaa
set_option linter.all false

theorem lc_letters : ∀ n : Fin 26, lc (97 + (n.1 : Int)) = 1 := by decide +kernel
theorem lc_marks : ∀ n : Fin 4, lc (768 + (n.1 : Int)) = 3 := by decide +kernel
theorem lc_letter {r : Int} (h : 97 ≤ r ∧ r ≤ 122) : lc r = 1 := by
  have := lc_letters ⟨(r - 97).toNat, by omega⟩
  dsimp only at this
  rw [show (97 : Int) + ((r - 97).toNat : Int) = r by omega] at this
  exact this
theorem lc_mark {r : Int} (h : 768 ≤ r ∧ r ≤ 771) : lc r = 3 := by
  have := lc_marks ⟨(r - 768).toNat, by omega⟩
  dsimp only at this
  rw [show (768 : Int) + ((r - 768).toNat : Int) = r by omega] at this
  exact this

/-- a letter or a mark -/
def LM (r : Int) : Prop := (97 ≤ r ∧ r ≤ 122) ∨ (768 ≤ r ∧ r ≤ 771)
def isL (r : Int) : Bool := decide (r < 768)

theorem parts11 : clParts (1, false, 0) 1 false = true := by kernel_rfl
theorem parts31 : clParts (3, false, 0) 1 false = true := by kernel_rfl
theorem parts13 : clParts (1, false, 0) 3 true = false := by kernel_rfl
theorem parts33 : clParts (3, false, 0) 3 true = false := by kernel_rfl
theorem add01 : clAdd (0, false, 0) 1 false true = (1, false, 0) := by kernel_rfl
theorem add11 : clAdd (1, false, 0) 1 false true = (1, false, 0) := by kernel_rfl
theorem add31 : clAdd (3, false, 0) 1 false true = (1, false, 0) := by kernel_rfl
theorem add13 : clAdd (1, false, 0) 3 true false = (3, false, 0) := by kernel_rfl
theorem add33 : clAdd (3, false, 0) 3 true false = (3, false, 0) := by kernel_rfl
theorem mark1 (w : Int) : clMark 1 w = false := by unfold clMark; simp
theorem mark3 (w : Int) : clMark 3 w = true := by unfold clMark; simp

theorem lm_at (rs : List Int) (h : ∀ r ∈ rs, LM r) (h0 : ∀ r, rs.head? = some r → isL r = true) : ∀ k, k ≤ rs.length →
    ((k = 0 ∧ (clAt rs k).2 = (0, false, 0)) ∨ (0 < k ∧ ((clAt rs k).2 = (1, false, 0) ∨ (clAt rs k).2 = (3, false, 0)))) ∧ ∀ j, 0 < j → j < k → (clAt rs k).1.getD j false = isL (rs.getD j 0)
  | 0, _ => ⟨.inl ⟨rfl, rfl⟩, fun j h1 h2 => by omega⟩
  | k + 1, hk => by
    obtain ⟨hp, hj⟩ := lm_at rs h h0 k (by omega)
    have hlen := clAt_len rs k
    have hmem : LM (rs.getD k 0) := h _ (by
      rw [show rs.getD k 0 = rs[k] by simp [List.getD, show k < rs.length by omega]]
      exact List.getElem_mem (by omega))
    by_cases e : k = 0
    · subst e
      have hs : clAt rs (0 + 1) = ((clAt rs 0).1, clAdd (clAt rs 0).2 (lc (rs.getD 0 0)) (clMark (lc (rs.getD 0 0)) (cw (rs.getD 0 0))) ((clAt rs 0).1.getD 0 false)) := by
        rw [clAt.eq_2]; exact if_pos rfl
      have hb : (clAt rs 0).1.getD 0 false = true := by
        have := clAt_keeps rs 0 (.inl rfl) (by omega) 0 (by omega)
        simp only [List.getD, this]
        rfl
      have hl : isL (rs.getD 0 0) = true := h0 _ (by
        cases rs with
        | nil => simp at hk
        | cons a t => rfl)
      have hl2 : 97 ≤ rs.getD 0 0 ∧ rs.getD 0 0 ≤ 122 := by
        have hl := of_decide_eq_true hl
        rcases hmem with h | h
        · exact h
        · omega
      rw [hs, hb, lc_letter hl2, mark1]
      refine ⟨.inr ⟨by omega, .inl ?_⟩, fun j h1 h2 => by omega⟩
      rcases hp with ⟨_, hp⟩ | ⟨h, _⟩
      · rw [hp]; exact add01
      · omega
    · have hs : clAt rs (k + 1) = ((clAt rs k).1.set k (clParts (clAt rs k).2 (lc (rs.getD k 0)) (clMark (lc (rs.getD k 0)) (cw (rs.getD k 0)))), clAdd (clAt rs k).2 (lc (rs.getD k 0)) (clMark (lc (rs.getD k 0)) (cw (rs.getD k 0))) (clParts (clAt rs k).2 (lc (rs.getD k 0)) (clMark (lc (rs.getD k 0)) (cw (rs.getD k 0))))) := by
        rw [clAt]; exact if_neg e
      have hp2 : (clAt rs k).2 = (1, false, 0) ∨ (clAt rs k).2 = (3, false, 0) := by
        rcases hp with ⟨h, _⟩ | ⟨_, h⟩
        · exact absurd h e
        · exact h
      have put : ∀ {b : Bool} {q : Int × Bool × Int}, isL (rs.getD k 0) = b → (q = (1, false, 0) ∨ q = (3, false, 0)) → ((k + 1 = 0 ∧ q = (0, false, 0)) ∨ (0 < k + 1 ∧ (q = (1, false, 0) ∨ q = (3, false, 0)))) ∧ ∀ j, 0 < j → j < k + 1 → ((clAt rs k).1.set k b).getD j false = isL (rs.getD j 0) := by
        intro b q hb hq
        refine ⟨.inr ⟨by omega, hq⟩, fun j h1 h2 => ?_⟩
        by_cases ej : j = k
        · subst ej
          simp only [List.getD]
          rw [List.getElem?_set_self (by rw [hlen]; omega)]
          exact hb.symm
        · simp only [List.getD]
          rw [List.getElem?_set_ne (fun h => ej h.symm)]
          exact hj j h1 (by omega)
      rw [hs]
      rcases hmem with hm | hm
      · have hil : isL (rs.getD k 0) = true := decide_eq_true (by omega)
        rw [lc_letter hm, mark1]
        rcases hp2 with hp2 | hp2 <;> rw [hp2]
        · rw [parts11, add11]; exact put hil (.inl rfl)
        · rw [parts31, add31]; exact put hil (.inl rfl)
      · have hil : isL (rs.getD k 0) = false := decide_eq_false (by omega)
        rw [lc_mark hm, mark3]
        rcases hp2 with hp2 | hp2 <;> rw [hp2]
        · rw [parts13, add13]; exact put hil (.inr rfl)
        · rw [parts33, add33]; exact put hil (.inr rfl)

/-- how many breaks there are up to a place, but the first -/
def trues (B : List Bool) : Nat → Nat
  | 0 => 0
  | k + 1 => trues B k + (if B.getD (k + 1) false then 1 else 0)
theorem trues_gap {B : List Bool} {a : Nat} : ∀ {c : Nat}, a ≤ c → (∀ j, a < j → j ≤ c → B.getD j false = false) → trues B c = trues B a
  | 0, h, _ => by rw [show a = 0 by omega]
  | c + 1, h, hf => by
    by_cases e : a = c + 1
    · rw [e]
    · show trues B c + _ = _
      rw [if_neg (by rw [hf (c + 1) (by omega) (Nat.le_refl _)]; simp), trues_gap (c := c) (by omega) (fun j h1 h2 => hf j h1 (by omega)), Nat.add_zero]
theorem Chain.count {B : List Bool} : ∀ {l : List (Int × Int)} {a b : Nat}, Chain B a l b → trues B b = trues B a + l.length
  | [], a, b, h => by
    have h : a = b := h
    subst h
    rfl
  | p :: l, a, b, h => by
    obtain ⟨_, d, _, g1, _, g3, g4, g5⟩ := h
    rw [g5.count]
    obtain ⟨c, rfl⟩ : ∃ c, d = c + 1 := ⟨d - 1, by omega⟩
    show trues B c + _ + l.length = _
    rw [if_pos g3, trues_gap (a := a) (c := c) (by omega) (fun j h1 h2 => g4 j h1 (by omega)), List.length_cons]
    omega

theorem trues_letters (rs : List Int) (h : ∀ r ∈ rs, LM r) (h0 : ∀ r, rs.head? = some r → isL r = true) : trues (clBreaks rs) rs.length = rs.countP isL := by
  have hB : ∀ j, 0 < j → j < rs.length → (clBreaks rs).getD j false = isL (rs.getD j 0) := (lm_at rs h h0 rs.length (Nat.le_refl _)).2
  have key : ∀ k, k < rs.length → trues (clBreaks rs) k + 1 = (rs.take (k + 1)).countP isL := by
    intro k
    induction k with
    | zero =>
      intro hk
      cases rs with
      | nil => simp at hk
      | cons a t =>
        have := h0 a rfl
        simp [trues, this]
    | succ k ih =>
      intro hk
      have e1 := ih (by omega)
      rw [List.take_succ_eq_append_getElem hk, List.countP_append, ← e1]
      show trues (clBreaks rs) k + _ + 1 = _
      rw [hB (k + 1) (by omega) hk]
      have : rs.getD (k + 1) 0 = rs[k + 1] := by simp [List.getD, hk]
      rw [this]
      by_cases hl : isL rs[k + 1] = true
      · rw [if_pos hl]; simp [hl]
      · rw [if_neg hl]; simp [hl]
  cases hn : rs.length with
  | zero =>
    have : rs = [] := List.eq_nil_of_length_eq_zero hn
    rw [this]
    rfl
  | succ n =>
    have hl := clBreaks_last rs
    rw [hn] at hl
    have := key n (by omega)
    show trues (clBreaks rs) n + _ = _
    rw [if_pos hl, this, List.take_of_length_le (by omega)]

/-- the letters and marks of some numbers -/
def word (n : Int) : List Int := (97 + n % 26) :: tab (n / 64).toNat (fun k => 768 + (k : Int))
def words (ns : List Int) : Nat → List Int
  | 0 => []
  | k + 1 => words ns k ++ word (ns.getD k 0)
theorem word_lm {n : Int} (h : 0 ≤ n ∧ n ≤ 255) : ∀ r ∈ word n, LM r := by
  intro r hr
  rcases List.mem_cons.1 hr with rfl | hr
  · left; omega
  · simp only [tab, List.mem_map, List.mem_range] at hr
    obtain ⟨k, hk, rfl⟩ := hr
    right; omega
theorem word_count (n : Int) (h : 0 ≤ n ∧ n ≤ 255) : (word n).countP isL = 1 := by
  unfold word
  rw [List.countP_cons_of_pos (show isL (97 + n % 26) = true from decide_eq_true (by omega)), List.countP_eq_zero.2 (fun r hr => by
    simp only [tab, List.mem_map, List.mem_range] at hr
    obtain ⟨k, hk, rfl⟩ := hr
    unfold isL
    simp; omega)]
theorem word_len {n : Int} (h : 0 ≤ n ∧ n ≤ 255) : (word n).length ≤ 4 := by
  simp only [word, List.length_cons, tab_len]; omega
theorem words_facts (ns : List Int) (h8 : ∀ n ∈ ns, 0 ≤ n ∧ n ≤ 255) : ∀ k, k ≤ ns.length → (∀ r ∈ words ns k, LM r) ∧ (words ns k).countP isL = k ∧ (words ns k).length ≤ 4 * k ∧ ∀ r, (words ns k).head? = some r → isL r = true
  | 0, _ => ⟨(fun r hr => by cases hr), rfl, by simp [words], (fun r hr => by cases hr)⟩
  | k + 1, hk => by
    obtain ⟨h1, h2, h3, h4⟩ := words_facts ns h8 k (by omega)
    have hn : 0 ≤ ns.getD k 0 ∧ ns.getD k 0 ≤ 255 := h8 _ (by
      rw [show ns.getD k 0 = ns[k] by simp [List.getD, show k < ns.length by omega]]
      exact List.getElem_mem (by omega))
    have hw := word_len hn
    refine ⟨fun r hr => (List.mem_append.1 hr).elim (h1 r) (word_lm hn r), ?_, ?_, fun r hr => ?_⟩
    · show (words ns k ++ word (ns.getD k 0)).countP isL = _
      rw [List.countP_append, h2, word_count _ hn]
    · show (words ns k ++ word (ns.getD k 0)).length ≤ _
      rw [List.length_append]; omega
    · cases hw0 : words ns k with
      | nil =>
        change (words ns k ++ word (ns.getD k 0)).head? = some r at hr
        rw [hw0] at hr
        cases hr
        exact decide_eq_true (by omega)
      | cons a t =>
        change (words ns k ++ word (ns.getD k 0)).head? = some r at hr
        rw [hw0] at hr
        rw [hw0] at h4
        exact h4 r hr

theorem clusterLetters_F (ns : List Int) (hn : ns.length ≤ 1048576) (h8 : ∀ n ∈ ns, 0 ≤ n ∧ n ≤ 255) : law31_ClusterLetters_F ns = some true := by
  unfold law31_ClusterLetters_F law31_ClusterLetters_T
  obtain ⟨w1, w2, w3, w4⟩ := words_facts ns h8 ns.length (Nat.le_refl _)
  obtain ⟨l, hl, hch⟩ := of_F (words ns ns.length) (by omega)
  refine Post.run (Post.bnd awake31 (Post.brF rfl (Post.bnd (count (L := fun s : List Int × List Int × List Int × Int × Int => law31_ClusterLetters_L5 s.1 s.2.1 s.2.2.1 s.2.2.2.1 s.2.2.2.2) ns.length (fun k => (ns, words ns k, ns, (ns.length : Int), (k : Int))) (r := (ns, words ns ns.length)) rfl (fun k hk => ?_) ?_) (Post.bnd hl (Post.pure ?_)))))
  · dsimp only
    unfold law31_ClusterLetters_L5
    have hm : 0 ≤ ns.getD k 0 ∧ ns.getD k 0 ≤ 255 := h8 _ (by
      rw [show ns.getD k 0 = ns[k] by simp [List.getD, hk]]
      exact List.getElem_mem hk)
    obtain ⟨_, _, k3, _⟩ := words_facts ns h8 k (by omega)
    refine Post.brT (decide_eq_true (by omega)) (Post.idx 0 k rfl hk (Post.bnd (app_eq (by simp only [List.length_cons, List.length_nil]; omega)) ?_))
    rw [wrap64 (n := ns.getD k 0) (by omega) (by omega), Int.tmod_eq_emod_of_nonneg hm.1, wrap64 (n := 97 + ns.getD k 0 % 26) (by omega) (by omega), wrap32 (n := 97 + ns.getD k 0 % 26) (by omega) (by omega)]
    generalize hv : ns.getD k 0 = n at hm
    refine Post.bnd (count (L := fun s : List Int × List Int × Int × Int × List Int × Int × Int => law31_ClusterLetters_L9 s.1 s.2.1 s.2.2.1 s.2.2.2.1 s.2.2.2.2.1 s.2.2.2.2.2.1 s.2.2.2.2.2.2) (n / 64).toNat (fun q => (ns, words ns k ++ ([97 + n % 26] ++ tab q (fun k => 768 + (k : Int))), n, (q : Int), ns, (ns.length : Int), (k : Int))) (r := (ns, words ns k ++ word n, ns, (ns.length : Int), (k : Int))) ?_ (fun q hq => ?_) ?_) (Post.pure ?_)
    · rw [tab_zero, List.append_nil]; rfl
    · dsimp only
      unfold law31_ClusterLetters_L9
      have hd : n.tdiv 64 = n / 64 := Int.tdiv_eq_ediv_of_nonneg hm.1
      rw [hd, wrapU8 (n := n / 64) (by omega) (by omega), wrap64 (n := n / 64) (by omega) (by omega), wrap_succ' (n := q) (by omega), wrap32 (n := (q : Int)) (by omega) (by omega), wrap32 (n := 768 + (q : Int)) (by omega) (by omega)]
      refine Post.brT (decide_eq_true (by omega)) (Post.bnd (app_eq (by simp only [List.length_append, List.length_cons, List.length_nil, tab_len]; omega)) (Post.pure ?_))
      rw [← tab_succ, List.append_assoc, List.append_assoc]
    · dsimp only
      unfold law31_ClusterLetters_L9
      have hd : n.tdiv 64 = n / 64 := Int.tdiv_eq_ediv_of_nonneg hm.1
      rw [hd, wrapU8 (n := n / 64) (by omega) (by omega), wrap64 (n := n / 64) (by omega) (by omega)]
      exact Post.brF (decide_eq_false (by omega)) (Post.pure rfl)
    · dsimp only
      rw [wrap_succ' (by omega)]
      show Lap.next _ = Lap.next (ns, words ns k ++ word (ns.getD k 0), ns, (ns.length : Int), ((k + 1 : Nat) : Int))
      rw [hv]
  · dsimp only
    unfold law31_ClusterLetters_L5
    exact Post.brF (decide_eq_false (by omega)) (Post.pure rfl)
  · have h1 := hch.count
    have h2 := trues_letters _ w1 w4
    rw [w2] at h2
    have h3 : trues (clBreaks (words ns ns.length)) 0 = 0 := rfl
    have : l.length = ns.length := by omega
    simp [this]

theorem clusterLetters_all (x : Tys.I [.sl (.int .u8)]) (h : WfAll [.sl (.int .u8)] x) (hb : bulkAll [.sl (.int .u8)] x ≤ 1048576) : law31_ClusterLetters_F x.1 = some true := by
  simp only [bulkAll, bulk] at hb
  exact clusterLetters_F _ (by omega) (fun n hn => wf_u8 (h.1.2 n hn))

end Go.Proofs.Ytenopbjggdhfgaa
