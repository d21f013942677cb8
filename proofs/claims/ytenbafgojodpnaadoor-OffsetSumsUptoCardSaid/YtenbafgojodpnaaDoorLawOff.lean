/-
  The laws of offsets: from scalars to bytes and back.
-/
import Derived.Test.YtenbafgojodpnaaDoorLawUtfN
namespace Go.Proofs.YtenbafgojodpnaaDoor
set_option linter.all false

abbrev sclB : ByteArray := ByteArray.mk #[115, 99, 97, 108, 97, 114]
abbrev bytB : ByteArray := ByteArray.mk #[98, 121, 116, 101]
/-- how many scalars there are -/
def num (b : List Int) : Nat := (starts b b.length 0).length
/-- where a scalar begins; the end, behind the last one -/
def bd (b : List Int) (k : Nat) : Nat := if k < num b then (starts b b.length 0).getD k 0 else b.length
theorem num_le (b : List Int) : num b ≤ b.length := starts_len b _ _
theorem bd_in {b : List Int} {k : Nat} (h : k < num b) : bd b k = (starts b b.length 0).getD k 0 := if_pos h
theorem bd_end {b : List Int} {k : Nat} (h : num b ≤ k) : bd b k = b.length := if_neg (by omega)
theorem bd_zero {b : List Int} (hb : Bytes b) : bd b 0 = 0 := by
  obtain ⟨h, _⟩ := starts_at hb b.length 0 (by omega) (by omega)
  by_cases h0 : 0 < b.length
  · obtain ⟨h1, h2⟩ := h h0
    rw [bd_in h2, h1]
  · have := num_le b
    rw [bd_end (by omega)]; omega
theorem bd_next {b : List Int} (hb : Bytes b) {k : Nat} (h : k < num b) : bd b k < bd b (k + 1) ∧ bd b k < b.length := by
  obtain ⟨_, h0⟩ := starts_at hb b.length 0 (by omega) (by omega)
  obtain ⟨h1, h2, h3⟩ := h0 k h
  have hs := sz_eq hb ((starts b b.length 0).getD k 0)
  rw [bd_in h]
  by_cases h4 : k + 1 < num b
  · rw [bd_in h4, h2 h4]; omega
  · rw [bd_end (by omega)]; exact ⟨h1, h1⟩
theorem bd_rise {b : List Int} (hb : Bytes b) {i : Nat} : ∀ {j : Nat}, i < j → j ≤ num b → bd b i < bd b j
  | 0, h, _ => by omega
  | j + 1, h, hj => by
    have := (bd_next hb (k := j) (by omega)).1
    by_cases e : i = j
    · rw [e]; exact this
    · have := bd_rise hb (i := i) (j := j) (by omega) (by omega); omega
theorem bd_le {b : List Int} (hb : Bytes b) {k : Nat} (h : k ≤ num b) : bd b k ≤ b.length := by
  by_cases h1 : k < num b
  · have := (bd_next hb h1).2; omega
  · rw [bd_end (by omega)]; omega

/-- the index of a text -/
def ix (b : List Int) : List Int × Int := (ats (starts b b.length 0), (b.length : Int))
theorem ix_len (b : List Int) : (ix b).1.length = num b := ats_len _
theorem ix_get {b : List Int} {k : Nat} (h : k < num b) : (ix b).1.getD k 0 = (bd b k : Int) := by rw [bd_in h]; exact ats_get h 0
theorem of_F {b : List Int} (hb : Bytes b) (hl : b.length ≤ 8388608) : offset_Of_F b = some (ix b) := by
  unfold offset_Of_F offset_Of_T
  exact Post.run (Post.bnd (decode_F hb hl) (Post.pure rfl))
theorem cnt_F (b : List Int) : offset_Index_Count_F (ix b) = some (num b : Int) := by
  unfold offset_Index_Count_F offset_Index_Count_T
  exact Post.run (Post.pure (by rw [ix_len]))
theorem size_F (b : List Int) : offset_Index_Size_F (ix b) = some (b.length : Int) := by
  unfold offset_Index_Size_F offset_Index_Size_T
  exact Post.run (Post.pure rfl)
theorem byte_out (b : List Int) {s : Int} (h : s < 0 ∨ (num b : Int) < s) : offset_Index_Byte_F (ix b) s = some (0, some (6, sclB, s)) := by
  unfold offset_Index_Byte_F offset_Index_Byte_T
  rw [ix_len]
  refine Post.run (Post.br (fun _ => Post.bnd rfl (Post.pure rfl)) (fun c => Post.brT ?_ (Post.bnd rfl (Post.pure rfl))))
  rw [decide_eq_false_iff_not] at c
  exact decide_eq_true (by omega)
theorem byte_in (b : List Int) {k : Nat} (h : k ≤ num b) : offset_Index_Byte_F (ix b) (k : Int) = some ((bd b k : Int), none) := by
  unfold offset_Index_Byte_F offset_Index_Byte_T
  rw [ix_len]
  refine Post.run (Post.brF (decide_eq_false (by omega)) (Post.brF (decide_eq_false (by omega)) (Post.br (fun c => Post.pure ?_) (fun c => Post.idx 0 k rfl ?_ (Post.pure ?_)))))
  · have c : k = num b := Int.ofNat.inj (by simpa using c)
    rw [bd_end (by omega)]; rfl
  · have c : ¬ k = num b := fun e => by simp [e] at c
    rw [ix_len]; omega
  · have c : ¬ k = num b := fun e => by simp [e] at c
    rw [ix_get (by omega)]

theorem half {i j : Nat} (h : i + j ≤ 4294967296) : IntKind.i64.wrap (shiftBy .shr .u64 (IntKind.u64.wrap (IntKind.i64.wrap ((i : Int) + (j : Int)))) 1) = (((i + j) / 2 : Nat) : Int) := by
  rw [wrap64 (n := (i : Int) + (j : Int)) (by omega) (by omega)]
  have e1 : IntKind.u64.wrap ((i : Int) + (j : Int)) = (i : Int) + (j : Int) := by
    simp only [IntKind.wrap, IntKind.signed, IntKind.bits]
    simp
    omega
  have e2 : shiftBy .shr .u64 ((i : Int) + (j : Int)) 1 = ((i : Int) + (j : Int)).fdiv 2 := rfl
  rw [e1, e2, Int.fdiv_eq_ediv_of_nonneg _ (by omega), wrap64 (by omega) (by omega)]
  omega
/-- the first place of a rising row that is no less than some number -/
theorem search_F {s : List Int} (hn : s.length ≤ 8388608) (hs : ∀ i j, i < j → j < s.length → s.getD i 0 < s.getD j 0) (v : Int) :
    ∃ k : Nat, sort_SearchInts_F s v = some (k : Int) ∧ k ≤ s.length ∧ (∀ t, t < k → s.getD t 0 < v) ∧ (∀ t, k ≤ t → t < s.length → v ≤ s.getD t 0) := by
  unfold sort_SearchInts_F sort_SearchInts_T sort_Search_F sort_Search_T
  obtain ⟨z, hz, k, rfl, h1, h2, h3⟩ := loop_ex (L := fun x : (List Int × Int) × Int × Int => sort_Search_L2 x.1 x.2.1 x.2.2)
    (I := fun x => ∃ i j : Nat, i ≤ j ∧ j ≤ s.length ∧ x = ((s, v), (i : Int), (j : Int)) ∧ (∀ t, t < i → s.getD t 0 < v) ∧ (∀ t, j ≤ t → t < s.length → v ≤ s.getD t 0))
    (m := fun x => x.2.2.toNat - x.2.1.toNat) (R := fun z => ∃ k : Nat, z = (k : Int) ∧ k ≤ s.length ∧ (∀ t, t < k → s.getD t 0 < v) ∧ (∀ t, k ≤ t → t < s.length → v ≤ s.getD t 0))
    (s0 := ((s, v), 0, (s.length : Int)))
    (by
      rintro x ⟨i, j, h1, h2, rfl, h3, h4⟩
      dsimp only
      unfold sort_Search_L2
      refine Post.br (fun c => ?_) (fun c => Post.pure ⟨i, rfl, by omega, h3, fun t g1 g2 => h4 t (by rw [decide_eq_false_iff_not] at c; omega) g2⟩)
      rw [decide_eq_true_eq] at c
      rw [half (by omega)]
      have hg : sort_SearchInts_1_F (((i + j) / 2 : Nat) : Int) s v = some (decide (s.getD ((i + j) / 2) 0 ≥ v)) := by
        unfold sort_SearchInts_1_F sort_SearchInts_1_T
        exact Post.run (Post.idx 0 _ rfl (by omega) (Post.pure rfl))
      have mono : ∀ a b, a ≤ b → b < s.length → s.getD a 0 ≤ s.getD b 0 := fun a b g1 g2 => by
        by_cases e : a = b
        · rw [e]; omega
        · have := hs a b (by omega) g2; omega
      refine Post.bnd hg (Post.br (fun c2 => Post.pure ?_) (fun c2 => Post.pure ?_))
      · have c2 : ¬ s.getD ((i + j) / 2) 0 ≥ v := by simpa using c2
        rw [wrap_succ (k := (i + j) / 2) (by omega)]
        exact ⟨⟨(i + j) / 2 + 1, j, by omega, h2, rfl, fun t ht => by have := mono t ((i + j) / 2) (by omega) (by omega); omega, h4⟩, by dsimp only; omega⟩
      · have c2 : s.getD ((i + j) / 2) 0 ≥ v := by simpa using c2
        exact ⟨⟨i, (i + j) / 2, by omega, by omega, rfl, h3, fun t g1 g2 => by have := mono ((i + j) / 2) t g1 g2; omega⟩, by dsimp only; omega⟩)
    ⟨0, s.length, by omega, by omega, rfl, fun t h => by omega, fun t h1 h2 => by omega⟩
  exact ⟨k, Post.run (Post.bnd (Post.run (Post.bnd hz (Post.pure rfl))) (Post.pure rfl)), h1, h2, h3⟩

/-- the scalar that has a byte -/
def Has (b : List Int) (a j : Nat) : Prop := j ≤ num b ∧ bd b j ≤ a ∧ (j < num b → a < bd b (j + 1))
theorem Has.uniq {b : List Int} (hb : Bytes b) {a j k : Nat} (h : Has b a j) (g : Has b a k) : j = k := by
  obtain ⟨h1, h2, h3⟩ := h
  obtain ⟨g1, g2, g3⟩ := g
  have key : ∀ {x y : Nat}, y ≤ num b → x < y → (x < num b → a < bd b (x + 1)) → bd b y ≤ a → False := fun {x y} k1 k2 k3 k4 => by
    have := k3 (by omega)
    by_cases e : x + 1 = y
    · rw [e] at this; omega
    · have := bd_rise hb (i := x + 1) (j := y) (by omega) k1; omega
  rcases Nat.lt_trichotomy j k with h | h | h
  · exact (key g1 h h3 g2).elim
  · exact h
  · exact (key h1 h g3 h2).elim
theorem scalar_out (b : List Int) {s : Int} (h : s < 0 ∨ (b.length : Int) < s) : offset_Index_Scalar_F (ix b) s = some (0, some (6, bytB, s)) := by
  unfold offset_Index_Scalar_F offset_Index_Scalar_T
  refine Post.run (Post.br (fun _ => Post.bnd rfl (Post.pure rfl)) (fun c => Post.brT ?_ (Post.bnd rfl (Post.pure rfl))))
  rw [decide_eq_false_iff_not] at c
  exact decide_eq_true (by show s > (b.length : Int); omega)
theorem scalar_in {b : List Int} (hb : Bytes b) (hl : b.length ≤ 8388608) {a : Nat} (h : a ≤ b.length) : ∃ j : Nat, offset_Index_Scalar_F (ix b) (a : Int) = some ((j : Int), none) ∧ Has b a j := by
  have hn := num_le b
  have out : ∀ {r : Int × Option (Int × ByteArray × Int)}, ((a : Int) = (b.length : Int) → Post (.pure ((num b : Int), none)) (· = r)) → (¬ a = b.length → Post (.bnd (sort_SearchInts_F (ix b).1 (IntKind.i64.wrap ((a : Int) + 1))) fun c_3 => .pure (IntKind.i64.wrap (c_3 - 1), none)) (· = r)) → offset_Index_Scalar_F (ix b) (a : Int) = some r := fun {r} h1 h2 => by
    unfold offset_Index_Scalar_F offset_Index_Scalar_T
    rw [ix_len]
    refine Post.run (Post.brF (decide_eq_false (by omega)) (Post.brF (decide_eq_false (by show ¬ (a : Int) > (b.length : Int); omega)) (Post.br (fun c => ?_) (fun c => ?_))))
    · exact h1 (by
        have c : ((a : Int) == (b.length : Int)) = true := c
        simpa using c)
    · exact h2 (by
        have c : ((a : Int) == (b.length : Int)) = false := c
        intro e
        rw [e] at c
        simp at c)
  by_cases e : a = b.length
  · exact ⟨num b, out (fun _ => Post.pure rfl) (fun h => absurd e h), Nat.le_refl _, by rw [bd_end (Nat.le_refl _)]; omega, fun h => by omega⟩
  · obtain ⟨k, h1, h2, h3, h4⟩ := search_F (s := (ix b).1) (by rw [ix_len]; omega) (fun i j g1 g2 => by
      rw [ix_len] at g2
      rw [ix_get (by omega), ix_get g2]
      have := bd_rise hb g1 (by omega)
      omega) ((a + 1 : Nat) : Int)
    rw [ix_len] at h2 h4
    have h0 := bd_zero hb
    have hpos : 0 < num b := by
      by_cases hp : 0 < num b
      · exact hp
      · rw [bd_end (by omega)] at h0; omega
    have hk : 0 < k := by
      by_cases hp : 0 < k
      · exact hp
      · have := h4 0 (by omega) hpos
        rw [ix_get hpos, h0] at this
        omega
    refine ⟨k - 1, out (fun h => absurd (by omega) e) (fun _ => Post.bnd (by rw [wrap_succ (by omega)]; exact h1) (Post.pure ?_)), by omega, ?_, fun h => ?_⟩
    · rw [wrap64 (by omega) (by omega), show (k : Int) - 1 = ((k - 1 : Nat) : Int) by omega]
    · have := h3 (k - 1) (by omega)
      rw [ix_get (by omega)] at this
      omega
    · by_cases hx : k < num b
      · have := h4 k (Nat.le_refl _) hx
        rw [ix_get hx] at this
        rw [show k - 1 + 1 = k by omega]
        omega
      · rw [bd_end (by omega)]; omega

theorem told_six (e : ByteArray) (v : Int) : law02_Told_F (some (6, e, v)) 6 e v = some true := by
  unfold law02_Told_F law02_Told_T
  exact Post.run (Post.brF (by rfl) (Post.bnd (b := (e, v)) rfl (Post.bnd (b := 6) rfl (Post.brT (by rfl) (Post.brT (by simp) (Post.pure (by simp)))))))
theorem told_five (e : ByteArray) (v : Int) : law02_Told_F (some (5, e, v)) 5 e v = some true := by
  unfold law02_Told_F law02_Told_T
  exact Post.run (Post.brF (by rfl) (Post.bnd (b := (e, v)) rfl (Post.bnd (b := 5) rfl (Post.brT (by rfl) (Post.brT (by simp) (Post.pure (by simp)))))))

theorem awake02 : law02_awake_F = some true := by
  have hb : Bytes [97, 195, 169, 255] := fun c hc => by
    have := List.all_eq_true.1 (show (([97, 195, 169, 255] : List Int).all fun c => decide (0 ≤ c) && decide (c ≤ 255)) = true by decide) c hc
    simpa using this
  have hl : ([97, 195, 169, 255] : List Int).length ≤ 8388608 := by decide
  have n3 : num [97, 195, 169, 255] = 3 := by decide +kernel
  have b1 : bd [97, 195, 169, 255] 1 = 1 := by decide +kernel
  have b2 : bd [97, 195, 169, 255] 2 = 3 := by decide +kernel
  have h1 := byte_in [97, 195, 169, 255] (k := 2) (by rw [n3]; omega)
  rw [b2] at h1
  obtain ⟨j, h2, g2⟩ := scalar_in hb hl (a := 2) (by decide)
  obtain rfl := g2.uniq hb (k := 1) ⟨by rw [n3]; omega, by rw [b1]; omega, fun _ => by rw [b2]; omega⟩
  obtain ⟨j, h3, g3⟩ := scalar_in hb hl (a := 4) (by decide)
  obtain rfl := g3.uniq hb (k := 3) ⟨by rw [n3]; omega, by rw [bd_end (by rw [n3]; omega)]; decide, fun h => by rw [n3] at h; omega⟩
  have h4 := byte_out [97, 195, 169, 255] (s := 4) (by rw [n3]; omega)
  have h5 := cnt_F [97, 195, 169, 255]
  rw [n3] at h5
  unfold law02_awake_F law02_awake_T
  refine Post.run (Post.bnd (of_F hb hl) (Post.bnd h1 (Post.bnd h2 (Post.bnd h3 (Post.bnd h4 (Post.bnd h5 ?_))))))
  exact Post.brT rfl (Post.brT rfl (Post.brT rfl (Post.brT rfl (Post.brT rfl (Post.brT rfl (Post.brT rfl (Post.bnd (told_six sclB 4) (Post.pure rfl))))))))

/-! ### OffsetSpans -/
theorem int_nat {s : Int} {n : Nat} (h0 : ¬ s < 0) (h1 : ¬ s > (n : Int)) : ∃ k : Nat, s = (k : Int) ∧ k ≤ n := ⟨s.toNat, by omega, by omega⟩
theorem offsetSpans_F (b : List Int) (f t : Int) (hl : b.length ≤ 8388608) (hb : Bytes b) : law02_OffsetSpans_F b f t = some true := by
  unfold law02_OffsetSpans_F law02_OffsetSpans_T
  refine Post.run (Post.bnd awake02 (Post.brF rfl (Post.bnd (of_F hb hl) ?_)))
  by_cases hf : f < 0 ∨ (num b : Int) < f
  · have h1 := byte_out b hf
    have h2 : offset_Index_Span_F (ix b) f t = some (0, 0, some (6, sclB, f)) := by
      unfold offset_Index_Span_F offset_Index_Span_T
      exact Post.run (Post.bnd h1 (Post.brT rfl (Post.pure rfl)))
    refine Post.bnd h2 (Post.bnd h1 ?_)
    have h3 : ∃ r, offset_Index_Byte_F (ix b) t = some r := by
      by_cases ht : t < 0 ∨ (num b : Int) < t
      · exact ⟨_, byte_out b ht⟩
      · obtain ⟨k, rfl, hk⟩ := int_nat (s := t) (n := num b) (by omega) (by omega)
        exact ⟨_, byte_in b hk⟩
    obtain ⟨r, h3⟩ := h3
    exact Post.bnd h3 (Post.brT rfl (Post.bnd (told_six sclB f) (Post.brT rfl (Post.brT rfl (Post.pure rfl)))))
  · obtain ⟨i, rfl, hi⟩ := int_nat (s := f) (n := num b) (by omega) (by omega)
    have h1 := byte_in b hi
    by_cases ht : t < 0 ∨ (num b : Int) < t
    · have h3 := byte_out b ht
      have h2 : offset_Index_Span_F (ix b) (i : Int) t = some (0, 0, some (6, sclB, t)) := by
        unfold offset_Index_Span_F offset_Index_Span_T
        exact Post.run (Post.bnd h1 (Post.brF rfl (Post.bnd h3 (Post.brT rfl (Post.pure rfl)))))
      exact Post.bnd h2 (Post.bnd h1 (Post.bnd h3 (Post.brF rfl (Post.brT rfl (Post.bnd (told_six sclB t) (Post.brT rfl (Post.brT rfl (Post.pure rfl))))))))
    · obtain ⟨k, rfl, hk⟩ := int_nat (s := t) (n := num b) (by omega) (by omega)
      have h3 := byte_in b hk
      by_cases hik : (k : Int) < (i : Int)
      · have h2 : offset_Index_Span_F (ix b) (i : Int) (k : Int) = some (0, 0, some (5, sclB, (k : Int))) := by
          unfold offset_Index_Span_F offset_Index_Span_T
          exact Post.run (Post.bnd h1 (Post.brF rfl (Post.bnd h3 (Post.brF rfl (Post.brT (decide_eq_true hik) (Post.bnd rfl (Post.pure rfl)))))))
        exact Post.bnd h2 (Post.bnd h1 (Post.bnd h3 (Post.brF rfl (Post.brF rfl (Post.brT (decide_eq_true hik) (Post.bnd (told_five sclB k) (Post.brT rfl (Post.brT rfl (Post.pure rfl)))))))))
      · have h2 : offset_Index_Span_F (ix b) (i : Int) (k : Int) = some ((bd b i : Int), (bd b k : Int), none) := by
          unfold offset_Index_Span_F offset_Index_Span_T
          exact Post.run (Post.bnd h1 (Post.brF rfl (Post.bnd h3 (Post.brF rfl (Post.brF (decide_eq_false hik) (Post.pure rfl))))))
        exact Post.bnd h2 (Post.bnd h1 (Post.bnd h3 (Post.brF rfl (Post.brF rfl (Post.brF (decide_eq_false hik) (Post.brT rfl (Post.brT (by simp) (Post.pure (by simp)))))))))

/-! ### OffsetBack -/
theorem offsetBack_F (b : List Int) (hl : b.length ≤ 8388608) (hb : Bytes b) : law02_OffsetBack_F b = some true := by
  unfold law02_OffsetBack_F law02_OffsetBack_T
  have hn := num_le b
  refine Post.run (Post.bnd awake02 (Post.brF rfl (Post.bnd (of_F hb hl) ?_)))
  refine Post.altL (count (L := fun s : List Int × (List Int × Int) × Int => law02_OffsetBack_L5 s.1 s.2.1 s.2.2) (num b + 1) (fun k => (b, ix b, ((k : Nat) : Int))) (r := Sum.inl (b, ix b)) rfl (fun k hk => ?_) ?_) ?_
  · dsimp only
    unfold law02_OffsetBack_L5
    obtain ⟨j, h1, h2⟩ := scalar_in hb hl (bd_le hb (k := k) (by omega))
    obtain rfl := h2.uniq hb (k := k) ⟨by omega, Nat.le_refl _, fun h => (bd_next hb h).1⟩
    refine Post.bnd (cnt_F b) (Post.brT (decide_eq_true (by omega)) (Post.bnd (byte_in b (by omega)) (Post.bnd h1 (Post.brF rfl (Post.brF rfl (Post.brF (by simp) (Post.pure ?_)))))))
    rw [wrap_succ (by omega)]
  · dsimp only
    unfold law02_OffsetBack_L5
    exact Post.bnd (cnt_F b) (Post.brF (decide_eq_false (by omega)) (Post.pure rfl))
  · dsimp only
    obtain ⟨z, hz, rfl⟩ := loop_ex (L := fun s : List Int × (List Int × Int) × Int × Int => law02_OffsetBack_L13 s.1 s.2.1 s.2.2.1 s.2.2.2)
      (I := fun s => ∃ a j : Nat, a ≤ b.length + 1 ∧ s = (b, ix b, (j : Int), (a : Int)) ∧ (a = 0 ∧ j = 0 ∨ Has b (a - 1) j))
      (m := fun s => b.length + 1 - s.2.2.2.toNat) (R := fun z => z = Sum.inl ()) (s0 := (b, ix b, 0, 0))
      (by
        rintro s ⟨a, j, h1, rfl, h2⟩
        dsimp only
        unfold law02_OffsetBack_L13
        refine Post.br (fun c => ?_) (fun c => Post.pure rfl)
        rw [decide_eq_true_eq] at c
        obtain ⟨i, h3, h4⟩ := scalar_in hb hl (a := a) (by omega)
        have h5 := h4.2.1
        have hj : j ≤ i ∧ i ≤ j + 1 := by
          rcases h2 with ⟨rfl, rfl⟩ | ⟨g1, g2, g3⟩
          · refine ⟨by omega, ?_⟩
            by_cases hx : i = 0
            · omega
            · have := bd_rise hb (i := 0) (j := i) (by omega) h4.1
              omega
          · constructor
            · by_cases hx : j ≤ i
              · exact hx
              · have := h4.2.2 (by omega)
                by_cases e : i + 1 = j
                · rw [e] at this; omega
                · have := bd_rise hb (i := i + 1) (j := j) (by omega) g1; omega
            · by_cases hx : i ≤ j + 1
              · exact hx
              · have := g3 (by have := h4.1; omega)
                have := bd_rise hb (i := j + 1) (j := i) (by omega) h4.1
                omega
        have hi := h4.1
        refine Post.bnd h3 (Post.bnd (byte_in b h4.1) (Post.brF rfl (Post.brF rfl (Post.brF (decide_eq_false (by dsimp only; omega)) (Post.brF (decide_eq_false (by dsimp only; omega)) (Post.brF (decide_eq_false ?_) (Post.pure ?_)))))))
        · dsimp only
          rw [wrap_succ (by omega)]
          omega
        · rw [wrap_succ (by omega)]
          exact ⟨⟨a + 1, i, by omega, rfl, .inr h4⟩, by dsimp only; omega⟩)
      ⟨0, 0, by omega, rfl, .inl ⟨rfl, rfl⟩⟩
    exact Post.altL hz (Post.pure rfl)

/-! ### OffsetPlaces -/
/-- what the law asks of a scalar's place -/
theorem places_tail {b : List Int} (hb : Bytes b) (hl : b.length ≤ 8388608) (a : Int) :
    Post (.bnd (offset_Index_Scalar_F (ix b) a) fun c =>
      .br (decide (a < 0)) (
        .bnd (law02_Told_F c.2 6 (ByteArray.mk #[98, 121, 116, 101]) a) fun d =>
        .br d (.pure (c.1 == 0)) (.pure false)) (
        .br (decide (a > (b.length : Int))) (
          .bnd (law02_Told_F c.2 6 (ByteArray.mk #[98, 121, 116, 101]) a) fun d =>
          .br d (.pure (c.1 == 0)) (.pure false)) (
          .bnd (loopW (fun s => (law02_OffsetPlaces_L18 s.1 s.2.1 s.2.2.1 s.2.2.2.1 s.2.2.2.2.1 s.2.2.2.2.2.1 s.2.2.2.2.2.2.1 s.2.2.2.2.2.2.2).run) (b, a, (vals b (starts b b.length 0)), (ats (starts b b.length 0)), c.1, c.2, ((vals b (starts b b.length 0)).length : Int), 0)) fun l =>
          .br l.2.1.isNone (.pure (l.1 == l.2.2)) (.pure false)))) (· = true) := by
  have hn := num_le b
  by_cases ha : a < 0 ∨ (b.length : Int) < a
  · refine Post.bnd (scalar_out b ha) (Post.br (fun _ => Post.bnd (told_six bytB a) (Post.brT rfl (Post.pure rfl))) (fun c => Post.brT ?_ (Post.bnd (told_six bytB a) (Post.brT rfl (Post.pure rfl)))))
    rw [decide_eq_false_iff_not] at c
    exact decide_eq_true (by omega)
  · obtain ⟨p, rfl, hp⟩ := int_nat (s := a) (n := b.length) (by omega) (by omega)
    obtain ⟨j, h1, h2⟩ := scalar_in hb hl hp
    have hv : (vals b (starts b b.length 0)).length = num b := vals_len _ _
    rw [hv]
    refine Post.bnd h1 (Post.brF (decide_eq_false (by omega)) (Post.brF (decide_eq_false (by omega)) ?_))
    let g : Nat → Nat := fun k => if p < b.length ∧ 0 < k then min (k - 1) j else num b
    refine Post.bnd (count (L := fun s : List Int × Int × List Int × List Int × Int × (Option (Int × ByteArray × Int)) × Int × Int => law02_OffsetPlaces_L18 s.1 s.2.1 s.2.2.1 s.2.2.2.1 s.2.2.2.2.1 s.2.2.2.2.2.1 s.2.2.2.2.2.2.1 s.2.2.2.2.2.2.2) (num b)
      (fun k => (b, (p : Int), vals b (starts b b.length 0), ats (starts b b.length 0), (j : Int), none, ((g k : Nat) : Int), ((k : Nat) : Int))) (r := ((j : Int), none, ((g (num b) : Nat) : Int))) ?_ (fun k hk => ?_) ?_) ?_
    · show _ = (b, (p : Int), vals b (starts b b.length 0), ats (starts b b.length 0), (j : Int), none, (((if p < b.length ∧ 0 < 0 then min (0 - 1) j else num b) : Nat) : Int), ((0 : Nat) : Int))
      rw [if_neg (by omega)]
      rfl
    · dsimp only
      unfold law02_OffsetPlaces_L18
      rw [hv]
      have hge : (ats (starts b b.length 0)).getD k 0 = (bd b k : Int) := ix_get hk
      have hj := h2.1
      refine Post.brT (decide_eq_true (by omega)) (Post.idx 0 k rfl (by rw [ats_len]; exact hk) ?_)
      rw [hge, wrap_succ (k := k) (by omega)]
      have same : ¬ (bd b k ≤ p ∧ p < b.length) → g k = g (k + 1) := fun h => by
        show (if p < b.length ∧ 0 < k then min (k - 1) j else num b) = if p < b.length ∧ 0 < k + 1 then min (k + 1 - 1) j else num b
        by_cases hpl : p < b.length
        · have hk0 : 0 < k := by
            by_cases e : k = 0
            · subst e; have := bd_zero hb; omega
            · omega
          rw [if_pos ⟨hpl, hk0⟩, if_pos ⟨hpl, by omega⟩]
          have : j < k := by
            by_cases hx : j < k
            · exact hx
            · by_cases e : k = j
              · subst e; have := h2.2.1; omega
              · have := bd_rise hb (i := k) (j := j) (by omega) hj; have := h2.2.1; omega
          omega
        · rw [if_neg (by omega), if_neg (by omega)]
      refine Post.br (fun c => Post.br (fun c2 => Post.pure ?_) (fun c2 => Post.pure ?_)) (fun c => Post.pure ?_)
      · rw [decide_eq_true_eq] at c c2
        have : g (k + 1) = k := by
          show (if p < b.length ∧ 0 < k + 1 then min (k + 1 - 1) j else num b) = k
          rw [if_pos ⟨by omega, by omega⟩]
          have : k ≤ j := by
            by_cases hx : k ≤ j
            · exact hx
            · have := h2.2.2 (by omega)
              by_cases e : j + 1 = k
              · rw [e] at this; omega
              · have := bd_rise hb (i := j + 1) (j := k) (by omega) (by omega); omega
          omega
        rw [this]
      · rw [decide_eq_false_iff_not] at c2
        rw [same (by omega)]
      · rw [decide_eq_false_iff_not] at c
        rw [same (by omega)]
    · dsimp only
      unfold law02_OffsetPlaces_L18
      rw [hv]
      exact Post.brF (decide_eq_false (by omega)) (Post.pure rfl)
    · dsimp only
      refine Post.brT rfl (Post.pure ?_)
      have : g (num b) = j := by
        show (if p < b.length ∧ 0 < num b then min (num b - 1) j else num b) = j
        obtain ⟨h3, h4, h5⟩ := h2
        by_cases hpl : p < b.length
        · have hjn : j < num b := by
            by_cases hx : j < num b
            · exact hx
            · rw [bd_end (by omega)] at h4; omega
          rw [if_pos ⟨hpl, by omega⟩]
          omega
        · rw [if_neg (by omega)]
          by_cases hx : j < num b
          · have := h5 hx
            have := bd_le hb (k := j + 1) (by omega)
            omega
          · omega
      rw [this]
      simp

theorem offsetPlaces_F (b : List Int) (s a : Int) (hl : b.length ≤ 8388608) (hb : Bytes b) : law02_OffsetPlaces_F b s a = some true := by
  unfold law02_OffsetPlaces_F law02_OffsetPlaces_T
  have hn := num_le b
  have hv : (vals b (starts b b.length 0)).length = num b := vals_len _ _
  have ht := places_tail hb hl a
  refine Post.run (Post.bnd awake02 (Post.brF rfl (Post.bnd (of_F hb hl) (Post.bnd (decode_F hb hl) (Post.bnd (cnt_F b) (Post.brF (by dsimp only; rw [hv]; simp) (Post.bnd (size_F b) (Post.brF (by simp) ?_))))))))
  dsimp only
  generalize hV : ((vals b (starts b b.length 0)).length : Int) = V at ht ⊢
  rw [hv] at hV
  by_cases h1 : s < 0
  · exact Post.bnd (byte_out b (.inl h1)) (Post.brT (decide_eq_true h1) (Post.bnd (told_six sclB s) (Post.brF rfl (Post.brF rfl ht))))
  · by_cases h2 : (num b : Int) < s
    · exact Post.bnd (byte_out b (.inr h2)) (Post.brF (decide_eq_false h1) (Post.brT (decide_eq_true (by omega)) (Post.bnd (told_six sclB s) (Post.brF rfl (Post.brF rfl ht)))))
    · obtain ⟨k, rfl, hk⟩ := int_nat (s := s) (n := num b) h1 (by omega)
      refine Post.bnd (byte_in b hk) (Post.brF (decide_eq_false h1) (Post.brF (decide_eq_false (by omega)) (Post.brF rfl (Post.br (fun c => ?_) (fun c => ?_)))))
      · rw [decide_eq_true_eq] at c
        have hge : (ats (starts b b.length 0)).getD k 0 = (bd b k : Int) := ix_get (by omega)
        refine Post.idx 0 k rfl (by rw [ats_len]; show k < num b; omega) (Post.brF (by rw [hge]; simp) (Post.brF ?_ ht))
        have : ¬ (k : Int) = V := by omega
        simpa using this
      · rw [decide_eq_false_iff_not] at c
        refine Post.brT (by have : (k : Int) = V := by omega
                            simpa using this) (Post.brF ?_ ht)
        rw [bd_end (by omega)]
        simp

theorem bytes_of {l : List Int} (h : ∀ n ∈ l, (Lit.int .u8 n).wf = true) : Bytes l := fun n hn => wf_u8 (h n hn)
theorem offsetPlaces_all (x : Tys.I [.sl (.int .u8), .int .i64, .int .i64]) (h : WfAll [.sl (.int .u8), .int .i64, .int .i64] x) (hb : bulkAll [.sl (.int .u8), .int .i64, .int .i64] x ≤ 1048576) : law02_OffsetPlaces_F x.1 x.2.1 x.2.2.1 = some true := by
  simp only [bulkAll, bulk] at hb
  exact offsetPlaces_F _ _ _ (by omega) (bytes_of fun n hn => h.1.2 n hn)
theorem offsetSpans_all (x : Tys.I [.sl (.int .u8), .int .i64, .int .i64]) (h : WfAll [.sl (.int .u8), .int .i64, .int .i64] x) (hb : bulkAll [.sl (.int .u8), .int .i64, .int .i64] x ≤ 1048576) : law02_OffsetSpans_F x.1 x.2.1 x.2.2.1 = some true := by
  simp only [bulkAll, bulk] at hb
  exact offsetSpans_F _ _ _ (by omega) (bytes_of fun n hn => h.1.2 n hn)
theorem offsetBack_all (x : Tys.I [.sl (.int .u8)]) (h : WfAll [.sl (.int .u8)] x) (hb : bulkAll [.sl (.int .u8)] x ≤ 1048576) : law02_OffsetBack_F x.1 = some true := by
  simp only [bulkAll, bulk] at hb
  exact offsetBack_F _ (by omega) (bytes_of fun n hn => h.1.2 n hn)

end Go.Proofs.YtenbafgojodpnaaDoor
