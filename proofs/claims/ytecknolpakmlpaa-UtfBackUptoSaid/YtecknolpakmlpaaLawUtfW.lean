/-
  What is written, and what is read of it.
-/
import Derived.Test.YtecknolpakmlpaaLawUtfN
namespace Go.Proofs.Ytecknolpakmlpaa
set_option linter.all false

theorem scalar_F {r : Int} (h : 0 ≤ r ∧ r < 55296 ∨ 57343 < r ∧ r ≤ 1114111) : utf_Scalar_F r = some true := by
  unfold utf_Scalar_F utf_Scalar_T
  refine Post.run (Post.br (fun h1 => ?_) (fun h1 => ?_))
  · refine Post.br (fun _ => Post.pure rfl) (fun h2 => Post.brT ?_ (Post.pure ?_))
    · have := of_decide_eq_false h2
      simp; omega
    · have := of_decide_eq_false h2
      simp; omega
  · have := of_decide_eq_false h1
    omega

/-! ### all of them -/
def scl (r : Int) : Bool := decide (0 ≤ r ∧ r < 55296 ∨ 57343 < r ∧ r ≤ 1114111)
def enc0 (r : Int) : List Int := if r < 128 then [r] else if r < 2048 then [192 + r / 64, 128 + r % 64] else if r < 65536 then [224 + r / 4096, 128 + r / 64 % 64, 128 + r % 64] else [240 + r / 262144, 128 + r / 4096 % 64, 128 + r / 64 % 64, 128 + r % 64]
/-- what stands for a rune -/
def fixr (r : Int) : Int := if scl r = true then r else 65533
def enc (r : Int) : List Int := enc0 (fixr r)
theorem fixr_ok (r : Int) : 0 ≤ fixr r ∧ fixr r < 55296 ∨ 57343 < fixr r ∧ fixr r ≤ 1114111 := by
  unfold fixr
  split
  · rename_i h; exact of_decide_eq_true h
  · omega
theorem scl_F (r : Int) : utf_Scalar_F r = some (scl r) := by
  by_cases h : 0 ≤ r ∧ r < 55296 ∨ 57343 < r ∧ r ≤ 1114111
  · rw [scalar_F h]; unfold scl; rw [decide_eq_true h]
  · unfold scl utf_Scalar_F utf_Scalar_T
    rw [decide_eq_false h]
    refine Post.run (Post.br (fun h1 => Post.br (fun h2 => ?_) (fun h2 => Post.br (fun h3 => Post.pure ?_) (fun h3 => Post.pure rfl))) (fun h1 => Post.br (fun h3 => Post.pure ?_) (fun h3 => Post.pure rfl)))
    · have h1 := of_decide_eq_true h1
      have h2 := of_decide_eq_true h2
      omega
    · have h1 := of_decide_eq_true h1
      have h3 := of_decide_eq_true h3
      exact decide_eq_false (by omega)
    · have h1 := of_decide_eq_false h1
      have h3 := of_decide_eq_true h3
      exact decide_eq_false (by omega)

/-! ### what the program writes -/
theorem shr_i32 {r : Int} (h : 0 ≤ r) (k : Nat) (hk : k ≤ 31) : shiftBy .shr .i32 r (k : Int) = r / 2 ^ k := by
  have e : shiftBy .shr .i32 r (k : Int) = r.fdiv (2 ^ (min k 32)) := rfl
  rw [e, Nat.min_eq_left (by omega), Int.fdiv_eq_ediv_of_nonneg _ (Int.le_of_lt (Int.pow_pos (by omega)))]
theorem shr6 {r : Int} (h : 0 ≤ r) : shiftBy .shr .i32 r 6 = r / 64 := shr_i32 h 6 (by omega)
theorem shr12 {r : Int} (h : 0 ≤ r) : shiftBy .shr .i32 r 12 = r / 4096 := shr_i32 h 12 (by omega)
theorem shr18 {r : Int} (h : 0 ≤ r) : shiftBy .shr .i32 r 18 = r / 262144 := shr_i32 h 18 (by omega)
theorem or_all : ((List.range 64).all fun n => ibits .or .u8 128 (n : Int) == ((128 + n : Nat) : Int)) = true ∧ ((List.range 32).all fun n => ibits .or .u8 192 (n : Int) == ((192 + n : Nat) : Int)) = true ∧ ((List.range 16).all fun n => ibits .or .u8 224 (n : Int) == ((224 + n : Nat) : Int)) = true ∧ ((List.range 8).all fun n => ibits .or .u8 240 (n : Int) == ((240 + n : Nat) : Int)) = true := by decide +kernel
theorem or_at {k m : Nat} (h : ((List.range m).all fun n => ibits .or .u8 (k : Int) (n : Int) == ((k + n : Nat) : Int)) = true) {x : Int} (h0 : 0 ≤ x) (h1 : x < m) : ibits .or .u8 (k : Int) x = (k : Int) + x := by
  obtain ⟨n, rfl⟩ := Int.eq_ofNat_of_zero_le h0
  have := List.all_eq_true.1 h n (List.mem_range.2 (by omega))
  have := eq_of_beq this
  rw [this]; omega
theorem or192 {x : Int} (h0 : 0 ≤ x) (h1 : x < 32) : ibits .or .u8 192 x = 192 + x := or_at (k := 192) or_all.2.1 h0 h1
theorem or224 {x : Int} (h0 : 0 ≤ x) (h1 : x < 16) : ibits .or .u8 224 x = 224 + x := or_at (k := 224) or_all.2.2.1 h0 h1
theorem or240 {x : Int} (h0 : 0 ≤ x) (h1 : x < 8) : ibits .or .u8 240 x = 240 + x := or_at (k := 240) or_all.2.2.2 h0 h1
theorem and63_i32 {x : Int} (h0 : 0 ≤ x) (h1 : x ≤ 2147483647) : ibits .and .i32 x 63 = x % 64 := by
  obtain ⟨n, rfl⟩ := Int.eq_ofNat_of_zero_le h0
  have e : ibits .and .i32 (n : Int) 63 = IntKind.i32.wrap ((BitVec.ofInt 32 (n : Int) &&& BitVec.ofInt 32 ((63 : Nat) : Int)).toNat : Int) := rfl
  rw [e, BitVec.ofInt_natCast, BitVec.ofInt_natCast, BitVec.toNat_and, BitVec.toNat_ofNat, BitVec.toNat_ofNat, Nat.mod_eq_of_lt (by omega), Nat.mod_eq_of_lt (by omega), show (63 : Nat) = 2 ^ 6 - 1 from rfl, Nat.and_two_pow_sub_one_eq_mod, wrap32 (by omega) (by omega)]
  omega
theorem tail_F {x : Int} (h0 : 0 ≤ x) (h1 : x ≤ 2147483647) : utf_tail_F x = some (128 + x % 64) := by
  unfold utf_tail_F utf_tail_T
  rw [and63_i32 h0 h1, wrapU8 (by omega) (by omega)]
  exact Post.run (Post.pure (or_at (k := 128) or_all.1 (by omega) (by omega)))
theorem write_F {b : List Int} (hl : b.length ≤ 70368744177664) (r : Int) : utf_write_F b r = some (b ++ enc r) := by
  unfold utf_write_F utf_write_T enc
  refine Post.run (Post.bnd (scl_F r) (Post.br (fun c => ?_) (fun c => ?_)))
  · have : fixr r = 65533 := by unfold fixr; rw [if_neg (by simpa using c)]
    rw [this]
    have e6 : shiftBy .shr .i32 65533 6 = 1023 := rfl
    have e12 : shiftBy .shr .i32 65533 12 = 15 := rfl
    refine Post.brF (by decide) (Post.brF (by decide) (Post.brT (by decide) ?_))
    rw [e6, e12]
    refine Post.bnd (tail_F (by omega) (by omega)) (Post.bnd (tail_F (by omega) (by omega)) (Post.bnd (app_eq (by simp only [List.length_cons, List.length_nil]; omega)) (Post.pure ?_)))
    rw [wrapU8 (n := 15) (by omega) (by omega), or224 (x := 15) (by omega) (by omega)]
    rfl
  · have hs : scl r = true := by simpa using c
    have e : fixr r = r := by unfold fixr; rw [if_pos hs]
    have h : 0 ≤ r ∧ r < 55296 ∨ 57343 < r ∧ r ≤ 1114111 := of_decide_eq_true hs
    rw [e]
    unfold enc0
    rw [shr6 (by omega), shr12 (by omega), shr18 (by omega)]
    by_cases h1 : r < 128
    · rw [if_pos h1]
      refine Post.brT (decide_eq_true h1) ?_
      rw [wrapU8 (by omega) (by omega)]
      exact Post.bnd (app_eq (by simp only [List.length_singleton]; omega)) (Post.pure rfl)
    · rw [if_neg h1]
      refine Post.brF (decide_eq_false h1) ?_
      by_cases h2 : r < 2048
      · rw [if_pos h2]
        refine Post.brT (decide_eq_true h2) (Post.bnd (tail_F (by omega) (by omega)) ?_)
        rw [wrapU8 (n := r / 64) (by omega) (by omega), or192 (x := r / 64) (by omega) (by omega)]
        exact Post.bnd (app_eq (by simp only [List.length_cons, List.length_nil]; omega)) (Post.pure rfl)
      · rw [if_neg h2]
        refine Post.brF (decide_eq_false h2) ?_
        by_cases h3 : r < 65536
        · rw [if_pos h3]
          refine Post.brT (decide_eq_true h3) (Post.bnd (tail_F (by omega) (by omega)) (Post.bnd (tail_F (by omega) (by omega)) ?_))
          rw [wrapU8 (n := r / 4096) (by omega) (by omega), or224 (x := r / 4096) (by omega) (by omega)]
          exact Post.bnd (app_eq (by simp only [List.length_cons, List.length_nil]; omega)) (Post.pure rfl)
        · rw [if_neg h3]
          refine Post.brF (decide_eq_false h3) (Post.bnd (tail_F (by omega) (by omega)) (Post.bnd (tail_F (by omega) (by omega)) (Post.bnd (tail_F (by omega) (by omega)) ?_)))
          rw [wrapU8 (n := r / 262144) (by omega) (by omega), or240 (x := r / 262144) (by omega) (by omega)]
          exact Post.bnd (app_eq (by simp only [List.length_cons, List.length_nil]; omega)) (Post.pure rfl)
theorem enc_len (r : Int) : 1 ≤ (enc r).length ∧ (enc r).length ≤ 4 := by
  unfold enc enc0
  split
  · simp
  · split
    · simp
    · split <;> simp
/-- the bytes of some runes -/
def encs : List Int → List Int
  | [] => []
  | r :: rs => enc r ++ encs rs
theorem encs_app : ∀ a b : List Int, encs (a ++ b) = encs a ++ encs b
  | [], b => rfl
  | r :: a, b => by show enc r ++ encs (a ++ b) = (enc r ++ encs a) ++ encs b; rw [encs_app a b, List.append_assoc]
theorem encs_len : ∀ a : List Int, (encs a).length ≤ 4 * a.length
  | [] => Nat.le_refl _
  | r :: a => by
    have := encs_len a
    have := enc_len r
    show (enc r ++ encs a).length ≤ _
    rw [List.length_append, List.length_cons]; omega
theorem encs_take {rs : List Int} {k : Nat} (hk : k < rs.length) : encs (rs.take (k + 1)) = encs (rs.take k) ++ enc (rs.getD k 0) := by
  rw [List.take_succ, show rs[k]? = some (rs.getD k 0) by simp [List.getD, hk], Option.toList_some, encs_app]
  show _ ++ (enc (rs.getD k 0) ++ []) = _
  rw [List.append_nil]
theorem encode_F (rs : List Int) (hn : rs.length ≤ 4194304) : utf_Encode_F rs = some (encs rs) := by
  unfold utf_Encode_F utf_Encode_T
  refine Post.run (Post.bnd (count (L := fun s : List Int × List Int × Int × Int => utf_Encode_L3 s.1 s.2.1 s.2.2.1 s.2.2.2) rs.length (fun k => (encs (rs.take k), rs, (rs.length : Int), ((k : Nat) : Int))) (r := encs rs) rfl (fun k hk => ?_) ?_) (Post.pure rfl))
  · dsimp only
    unfold utf_Encode_L3
    have hl := encs_len (rs.take k)
    rw [List.length_take] at hl
    refine Post.brT (decide_eq_true (by omega)) (Post.idx 0 k rfl hk (Post.bnd (write_F (by omega) _) (Post.pure ?_)))
    rw [encs_take hk, wrap_succ (by omega)]
  · dsimp only
    unfold utf_Encode_L3
    rw [List.take_of_length_le (Nat.le_refl _)]
    exact Post.brF (decide_eq_false (by omega)) (Post.pure rfl)

/-! ### what is written is read -/
theorem dec_enc0 {v : Int} (hv : 0 ≤ v ∧ v < 55296 ∨ 57343 < v ∧ v ≤ 1114111) (t : List Int) : dec ((enc0 v ++ t).getD 0 256) ((enc0 v ++ t).getD 1 256) ((enc0 v ++ t).getD 2 256) ((enc0 v ++ t).getD 3 256) = (v, ((enc0 v).length : Int), true) := by
  unfold enc0
  by_cases h1 : v < 128
  · rw [if_pos h1]
    show dec v _ _ _ = (v, 1, true)
    have e : lead v = (1, 0, 0) := by unfold lead; rw [if_pos h1]
    unfold dec
    rw [e]
    rfl
  · rw [if_neg h1]
    by_cases h2 : v < 2048
    · rw [if_pos h2]
      show dec (192 + v / 64) (128 + v % 64) _ _ = (v, 2, true)
      have e : lead (192 + v / 64) = (2, 128, 191) := by unfold lead; rw [if_neg (by omega), if_neg (by omega), if_pos (by omega)]
      unfold dec
      rw [e]
      dsimp only
      rw [if_neg (by decide), if_neg (by decide), if_neg (by omega), if_pos rfl, show (192 + v / 64) % 32 * 64 + (128 + v % 64) % 64 = v by omega]
    · rw [if_neg h2]
      by_cases h3 : v < 65536
      · rw [if_pos h3]
        show dec (224 + v / 4096) (128 + v / 64 % 64) (128 + v % 64) _ = (v, 3, true)
        have e : ∃ lo hi, lead (224 + v / 4096) = (3, lo, hi) ∧ ¬ (128 + v / 64 % 64 < lo ∨ hi < 128 + v / 64 % 64) := by
          unfold lead
          rw [if_neg (by omega), if_neg (by omega), if_neg (by omega)]
          by_cases a : 224 + v / 4096 = 224
          · rw [if_pos a]; exact ⟨_, _, rfl, by omega⟩
          · rw [if_neg a]
            by_cases a2 : 224 + v / 4096 = 237
            · rw [if_pos a2]; exact ⟨_, _, rfl, by omega⟩
            · rw [if_neg a2, if_pos (by omega)]; exact ⟨_, _, rfl, by omega⟩
        obtain ⟨lo, hi, e, hn⟩ := e
        unfold dec
        rw [e]
        dsimp only
        rw [if_neg (by decide), if_neg (by decide), if_neg hn, if_neg (by decide), if_neg (by omega), if_pos rfl, show ((224 + v / 4096) % 16 * 64 + (128 + v / 64 % 64) % 64) * 64 + (128 + v % 64) % 64 = v by omega]
      · rw [if_neg h3]
        show dec (240 + v / 262144) (128 + v / 4096 % 64) (128 + v / 64 % 64) (128 + v % 64) = (v, 4, true)
        have e : ∃ lo hi, lead (240 + v / 262144) = (4, lo, hi) ∧ ¬ (128 + v / 4096 % 64 < lo ∨ hi < 128 + v / 4096 % 64) := by
          unfold lead
          rw [if_neg (by omega), if_neg (by omega), if_neg (by omega), if_neg (by omega), if_neg (by omega), if_neg (by omega)]
          by_cases a : 240 + v / 262144 = 240
          · rw [if_pos a]; exact ⟨_, _, rfl, by omega⟩
          · rw [if_neg a]
            by_cases a2 : 240 + v / 262144 < 244
            · rw [if_pos a2]; exact ⟨_, _, rfl, by omega⟩
            · rw [if_neg a2, if_pos (by omega)]; exact ⟨_, _, rfl, by omega⟩
        obtain ⟨lo, hi, e, hn⟩ := e
        unfold dec
        rw [e]
        dsimp only
        rw [if_neg (by decide), if_neg (by decide), if_neg hn, if_neg (by decide), if_neg (by omega), if_neg (by decide), if_neg (by omega), show (((240 + v / 262144) % 8 * 64 + (128 + v / 4096 % 64) % 64) * 64 + (128 + v / 64 % 64) % 64) * 64 + (128 + v % 64) % 64 = v by omega]
theorem enc_bytes (r : Int) : Bytes (enc r) := by
  have h := fixr_ok r
  unfold enc enc0
  intro c hc
  split at hc
  · simp at hc; omega
  · split at hc
    · simp at hc; omega
    · split at hc <;> simp at hc <;> omega
theorem encs_bytes : ∀ rs : List Int, Bytes (encs rs)
  | [] => fun c hc => by cases hc
  | r :: rs => fun c hc => by
    rcases List.mem_append.1 hc with hc | hc
    · exact enc_bytes r c hc
    · exact encs_bytes rs c hc
theorem bytes_app {a b : List Int} (ha : Bytes a) (hb : Bytes b) : Bytes (a ++ b) := fun c hc => by
  rcases List.mem_append.1 hc with hc | hc
  · exact ha c hc
  · exact hb c hc
theorem gg_right (A L : List Int) (p i : Nat) : gg (A ++ L) (A.length + p) i = gg L p i := by
  unfold gg
  rw [List.getD, List.getD, Nat.add_assoc, List.getElem?_append_right (by omega), Nat.add_sub_cancel_left]
theorem decAt_right (A L : List Int) (p : Nat) : decAt (A ++ L) (A.length + p) = decAt L p := by
  unfold decAt
  rw [gg_right, gg_right, gg_right, gg_right]
theorem sz_right (A L : List Int) (p : Nat) : sz (A ++ L) (A.length + p) = sz L p := by
  unfold sz
  rw [decAt_right]
theorem decAt_enc (A B : List Int) (r : Int) : decAt (A ++ (enc r ++ B)) A.length = (fixr r, ((enc r).length : Int), true) := by
  have := decAt_right A (enc r ++ B) 0
  rw [Nat.add_zero] at this
  rw [this]
  unfold decAt gg
  simp only [Nat.zero_add]
  exact dec_enc0 (fixr_ok r) B
theorem sz_enc (A B : List Int) (r : Int) : sz (A ++ (enc r ++ B)) A.length = (enc r).length := by
  unfold sz
  rw [decAt_enc]
  rfl
/-- where the runes begin that are written from a place on -/
def wl : List Int → Nat → List Nat
  | [], _ => []
  | r :: rs, p => p :: wl rs (p + (enc r).length)
theorem wl_len : ∀ (rs : List Int) (p : Nat), (wl rs p).length = rs.length
  | [], _ => rfl
  | r :: rs, p => by show (p :: wl rs _).length = _; rw [List.length_cons, wl_len rs, List.length_cons]
theorem starts_walk : ∀ (rs A B : List Int) (f : Nat), starts (A ++ (encs rs ++ B)) (rs.length + f) A.length = wl rs A.length ++ starts (A ++ (encs rs ++ B)) f (A.length + (encs rs).length)
  | [], A, B, f => by simp [encs, wl]
  | r :: rs, A, B, f => by
    have he := enc_len r
    have e : A ++ (encs (r :: rs) ++ B) = A ++ (enc r ++ (encs rs ++ B)) := by show A ++ ((enc r ++ encs rs) ++ B) = _; rw [List.append_assoc]
    have e2 : A ++ (enc r ++ (encs rs ++ B)) = (A ++ enc r) ++ (encs rs ++ B) := by rw [List.append_assoc]
    have hlt : A.length < (A ++ (enc r ++ (encs rs ++ B))).length := by simp only [List.length_append]; omega
    have ih := starts_walk rs (A ++ enc r) B f
    rw [e, show (r :: rs).length + f = (rs.length + f) + 1 by rw [List.length_cons]; omega, starts_succ, if_pos hlt, sz_enc]
    rw [← e2, List.length_append] at ih
    rw [ih]
    show _ = (A.length :: wl rs (A.length + (enc r).length)) ++ starts _ f (A.length + (enc r ++ encs rs).length)
    rw [List.length_append, List.cons_append, Nat.add_assoc]
theorem starts_right (A L : List Int) : ∀ (f p : Nat), starts (A ++ L) f (A.length + p) = (starts L f p).map (A.length + ·)
  | 0, _ => rfl
  | f + 1, p => by
    rw [starts_succ, starts_succ, sz_right, List.length_append]
    by_cases h : p < L.length
    · rw [if_pos (by omega), if_pos h, List.map_cons, Nat.add_assoc, starts_right A L f]
    · rw [if_neg (by omega), if_neg h]; rfl
theorem starts_fuel {b : List Int} (hb : Bytes b) : ∀ (f p g : Nat), b.length ≤ f + p → f ≤ g → starts b g p = starts b f p
  | 0, p, g, h, _ => by
    cases g with
    | zero => rfl
    | succ g => rw [starts_succ, if_neg (by omega)]; rfl
  | f + 1, p, 0, _, hg => by omega
  | f + 1, p, g + 1, h, hg => by
    rw [starts_succ, starts_succ]
    split
    · have := sz_eq hb p
      rw [starts_fuel hb f (p + sz b p) g (by omega) (by omega)]
    · rfl
theorem starts_encs (rs : List Int) {B : List Int} (hB : Bytes B) : starts (encs rs ++ B) (encs rs ++ B).length 0 = wl rs 0 ++ (starts B B.length 0).map ((encs rs).length + ·) := by
  have hT := bytes_app (encs_bytes rs) hB
  have h := starts_walk rs [] B (encs rs ++ B).length
  have h2 := starts_right (encs rs) B (encs rs ++ B).length 0
  rw [List.nil_append, List.length_nil, Nat.zero_add] at h
  rw [Nat.add_zero] at h2
  rw [← starts_fuel hT (encs rs ++ B).length 0 (rs.length + (encs rs ++ B).length) (by omega) (by omega), h, h2, starts_fuel hB B.length 0 (encs rs ++ B).length (by omega) (by rw [List.length_append]; omega)]
theorem vals_wl : ∀ (rs A B : List Int), vals (A ++ (encs rs ++ B)) (wl rs A.length) = rs.map fixr
  | [], _, _ => rfl
  | r :: rs, A, B => by
    have e : A ++ (encs (r :: rs) ++ B) = A ++ (enc r ++ (encs rs ++ B)) := by show A ++ ((enc r ++ encs rs) ++ B) = _; rw [List.append_assoc]
    have e2 : A ++ (enc r ++ (encs rs ++ B)) = (A ++ enc r) ++ (encs rs ++ B) := by rw [List.append_assoc]
    have ih := vals_wl rs (A ++ enc r) B
    rw [← e2, List.length_append] at ih
    rw [e]
    show (decAt (A ++ (enc r ++ (encs rs ++ B))) A.length).1 :: vals _ (wl rs (A.length + (enc r).length)) = fixr r :: rs.map fixr
    rw [ih, decAt_enc]
theorem vals_right (A L : List Int) : ∀ ps : List Nat, vals (A ++ L) (ps.map (A.length + ·)) = vals L ps
  | [] => rfl
  | p :: ps => by
    show (decAt (A ++ L) (A.length + p)).1 :: vals _ (ps.map (A.length + ·)) = (decAt L p).1 :: vals L ps
    rw [decAt_right, vals_right A L ps]
theorem vals_encs (rs : List Int) {B : List Int} (hB : Bytes B) : vals (encs rs ++ B) (starts (encs rs ++ B) (encs rs ++ B).length 0) = rs.map fixr ++ vals B (starts B B.length 0) := by
  have h1 := vals_wl rs [] B
  rw [List.nil_append, List.length_nil] at h1
  rw [starts_encs rs hB]
  show (wl rs 0 ++ (starts B B.length 0).map ((encs rs).length + ·)).map _ = _
  rw [List.map_append]
  exact congr (congrArg _ h1) (vals_right (encs rs) B _)
theorem starts_encs0 (rs : List Int) : starts (encs rs) (encs rs).length 0 = wl rs 0 ∧ vals (encs rs) (starts (encs rs) (encs rs).length 0) = rs.map fixr := by
  have hB : Bytes [] := fun c hc => by cases hc
  have h1 := starts_encs rs hB
  have h2 := vals_encs rs hB
  rw [List.append_nil] at h1 h2
  exact ⟨h1.trans (by simp [starts]), h2.trans (by simp [starts, vals])⟩

end Go.Proofs.Ytecknolpakmlpaa
