/-
  Pages of a list of numbers, each kept once; a map that tells where each stands.
-/
import Derived.Test.YtemapfidlomkhaaDoorEvMath
import Derived.Maps.OwnSet
import Derived.Maps.Views
namespace Go.Proofs.YtemapfidlomkhaaDoor
set_option linter.all false
open Go.Maps

/-- the page of so many numbers at a place -/
def pg (all : List Int) (k : Nat) : List Int := (all.drop (128 * k)).take 128
/-- the pages, each once -/
def pgs (all : List Int) : Nat → List (List Int)
  | 0 => []
  | k + 1 => if pg all k ∈ pgs all k then pgs all k else pgs all k ++ [pg all k]
theorem pgs_succ (all : List Int) (k : Nat) : pgs all (k + 1) = if pg all k ∈ pgs all k then pgs all k else pgs all k ++ [pg all k] := rfl
/-- which page each block has -/
def bls (all : List Int) : Nat → List Int
  | 0 => []
  | k + 1 => bls all k ++ [((pgs all (k + 1)).idxOf (pg all k) : Int)]

def Byte (q : List Int) : Prop := q.length = 128 ∧ ∀ n ∈ q, 0 ≤ n ∧ n ≤ 255

theorem pg_byte {all : List Int} {k : Nat} (h : 128 * (k + 1) ≤ all.length) (hb : ∀ n ∈ all, 0 ≤ n ∧ n ≤ 255) : Byte (pg all k) := by
  refine ⟨?_, fun n hn => hb n (List.mem_of_mem_drop (List.mem_of_mem_take hn))⟩
  simp only [pg, List.length_take, List.length_drop]
  omega
theorem pgs_mem {all : List Int} : ∀ {k : Nat} {q : List Int}, q ∈ pgs all k ↔ ∃ j, j < k ∧ pg all j = q
  | 0, q => by simp [pgs]
  | k + 1, q => by
    unfold pgs
    split
    · rename_i h
      rw [pgs_mem]
      constructor
      · rintro ⟨j, hj, rfl⟩; exact ⟨j, by omega, rfl⟩
      · rintro ⟨j, hj, rfl⟩
        by_cases e : j = k
        · subst e; exact pgs_mem.1 h
        · exact ⟨j, by omega, rfl⟩
    · rw [List.mem_append, pgs_mem, List.mem_singleton]
      constructor
      · rintro (⟨j, hj, rfl⟩ | rfl)
        · exact ⟨j, by omega, rfl⟩
        · exact ⟨k, by omega, rfl⟩
      · rintro ⟨j, hj, rfl⟩
        by_cases e : j = k
        · subst e; exact .inr rfl
        · exact .inl ⟨j, by omega, rfl⟩
theorem pgs_len {all : List Int} : ∀ k, (pgs all k).length ≤ k
  | 0 => by simp [pgs]
  | k + 1 => by
    have := pgs_len (all := all) k
    unfold pgs
    split
    · omega
    · simp; omega
theorem bls_len {all : List Int} : ∀ k, (bls all k).length = k
  | 0 => rfl
  | k + 1 => by simp [bls, bls_len (all := all) k]
theorem pgs_flat {all : List Int} : ∀ k, (∀ q ∈ pgs all k, q.length = 128) → ((pgs all k).flatten).length = 128 * (pgs all k).length := by
  intro k
  generalize pgs all k = l
  intro h
  induction l with
  | nil => rfl
  | cons a l ih =>
    rw [List.flatten_cons, List.length_append, ih (fun q hq => h q (by simp [hq])), h a (by simp), List.length_cons]
    omega
/-- where a page stands stays as it is -/
theorem idx_stay {all : List Int} {q : List Int} {j k : Nat} (hjk : j ≤ k) (hq : q ∈ pgs all j) : (pgs all k).idxOf q = (pgs all j).idxOf q := by
  induction k with
  | zero => rw [show j = 0 by omega]
  | succ k ih =>
    by_cases e : j = k + 1
    · rw [e]
    · rw [← ih (by omega), pgs_succ]
      split
      · rfl
      · have : q ∈ pgs all k := by
          obtain ⟨i, hi, h⟩ := pgs_mem.1 hq
          exact pgs_mem.2 ⟨i, by omega, h⟩
        rw [List.idxOf_append, if_pos this]
theorem bls_get {all : List Int} : ∀ {k j : Nat}, j < k → (bls all k)[j]? = some ((pgs all k).idxOf (pg all j) : Int)
  | 0, j, h => by omega
  | k + 1, j, h => by
    unfold bls
    by_cases e : j = k
    · subst e
      rw [List.getElem?_append_right (by rw [bls_len]; omega), bls_len, Nat.sub_self]
      rfl
    · rw [List.getElem?_append_left (by rw [bls_len]; omega), bls_get (by omega), idx_stay (j := k) (k := k + 1) (by omega) (pgs_mem.2 ⟨j, by omega, rfl⟩)]
/-- a place of a page, found in the pages one behind the other -/
theorem flat_get {l : List (List Int)} (h : ∀ q ∈ l, q.length = 128) : ∀ {i r : Nat} {q : List Int}, l[i]? = some q → r < 128 → l.flatten[i * 128 + r]? = q[r]? := by
  induction l with
  | nil => intro i r q hq; simp at hq
  | cons a l ih =>
    intro i r q hq hr
    have ha := h a (by simp)
    rw [List.flatten_cons]
    cases i with
    | zero =>
      cases hq
      rw [List.getElem?_append_left (by omega)]
      simp
    | succ i =>
      rw [List.getElem?_append_right (by omega), show (i + 1) * 128 + r - a.length = i * 128 + r by omega]
      exact ih (fun q hq => h q (by simp [hq])) hq hr
theorem idxOf_get {l : List (List Int)} {q : List Int} (h : q ∈ l) : l[l.idxOf q]? = some q := by
  have hl := List.idxOf_lt_length_of_mem h
  rw [List.getElem?_eq_getElem hl, List.getElem_idxOf hl]
/-- the value of a rune, by way of its page -/
theorem page_get {all : List Int} {n : Nat} (hn : all.length = 128 * n) {r : Nat} (hr : r < all.length) :
    ∃ i : Nat, (bls all n)[r / 128]? = some (i : Int) ∧ i < n ∧ ((pgs all n).flatten)[i * 128 + r % 128]? = all[r]? := by
  have hk : r / 128 < n := by omega
  have hm : pg all (r / 128) ∈ pgs all n := pgs_mem.2 ⟨_, hk, rfl⟩
  have hlen : ∀ q ∈ pgs all n, q.length = 128 := by
    intro q hq
    obtain ⟨j, hj, rfl⟩ := pgs_mem.1 hq
    simp only [pg, List.length_take, List.length_drop]
    omega
  refine ⟨(pgs all n).idxOf (pg all (r / 128)), bls_get hk, ?_, ?_⟩
  · have := List.idxOf_lt_length_of_mem hm
    have := pgs_len (all := all) n
    omega
  · rw [flat_get hlen (idxOf_get hm) (by omega)]
    simp only [pg, List.getElem?_take, List.getElem?_drop]
    rw [if_pos (by omega), show 128 * (r / 128) + r % 128 = r by omega]

/-! ### the map of pages -/
def kl (q : List Int) : Lit := .string (strOfNums q).data.toList
theorem kl_inj {q r : List Int} (hq : Byte q) (hr : Byte r) (h : kl q = kl r) : q = r := by
  unfold kl at h
  injection h with h
  rw [strOfNums_data, strOfNums_data] at h
  have key : ∀ (a b : List Int), (∀ n ∈ a, 0 ≤ n ∧ n ≤ 255) → (∀ n ∈ b, 0 ≤ n ∧ n ≤ 255) → a.map (fun n => UInt8.ofNat n.toNat) = b.map (fun n => UInt8.ofNat n.toNat) → a = b := by
    intro a
    induction a with
    | nil =>
      intro b _ _ h
      cases b with
      | nil => rfl
      | cons _ _ => simp at h
    | cons x a ih =>
      intro b ha hb h
      cases b with
      | nil => simp at h
      | cons y b =>
        rw [List.map_cons, List.map_cons] at h
        injection h with h1 h2
        have hx := ha x (by simp)
        have hy := hb y (by simp)
        have h3 : (UInt8.ofNat x.toNat).toNat = (UInt8.ofNat y.toNat).toNat := by rw [h1]
        simp only [UInt8.toNat_ofNat'] at h3
        have : x = y := by omega
        rw [this, ih b (fun n hn => ha n (by simp [hn])) (fun n hn => hb n (by simp [hn])) h2]
  exact key q r hq.2 hr.2 h
theorem kl_key (q : List Int) : WideAt.IsKeyLit (kl q) := by
  unfold kl
  simp [WideAt.IsKeyLit]

structure MD (D : DataW Unit) (l : List (List Int)) : Prop where
  map : IsMap D
  has : ∀ q, Byte q → Maps.has D (kl q) = decide (q ∈ l)
  at_ : ∀ q, Byte q → q ∈ l → D.atKey (kl q) (.lit (.int .i64 0)) = .lit (.int .i64 (l.idxOf q : Int))

theorem MD.start : MD (.map []) [] := ⟨⟨[], rfl⟩, fun q _ => by simp [Maps.has], fun q _ h => by simp at h⟩
theorem MD.put {D : DataW Unit} {l : List (List Int)} (h : MD D l) {q : List Int} (hq : Byte q) (hn : q ∉ l) : MD (D.put (kl q) (.lit (.int .i64 (l.length : Int)))) (l ++ [q]) := by
  refine ⟨?_, fun r hr => ?_, fun r hr hm => ?_⟩
  · obtain ⟨es, rfl⟩ := h.map
    exact ⟨_, rfl⟩
  · by_cases e : r = q
    · subst e
      rw [has_put_same h.map (kl_key _)]
      simp
    · rw [has_put_other (fun h => e (kl_inj hr hq h)), h.has r hr]
      simp [e]
  · by_cases e : r = q
    · subst e
      rw [atKey_put_same h.map (kl_key _), List.idxOf_append, if_neg hn]
      simp
    · have hm' : r ∈ l := by
        rcases List.mem_append.1 hm with h | h
        · exact h
        · exact absurd (List.mem_singleton.1 h) e
      rw [atKey_put_other (fun h => e (kl_inj hr hq h)), h.at_ r hr hm', List.idxOf_append, if_pos hm']
end Go.Proofs.YtemapfidlomkhaaDoor
