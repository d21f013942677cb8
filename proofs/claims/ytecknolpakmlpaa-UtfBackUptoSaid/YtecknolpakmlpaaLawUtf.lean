/-
  The laws of utf return true: what the program reads at a place.
-/
import Derived.Test.YtecknolpakmlpaaSh
import Derived.Test.YtecknolpakmlpaaEvMath
namespace Go.Proofs.Ytecknolpakmlpaa
set_option linter.all false

/-! ### bits -/
theorem and63_all : ((List.range 256).all fun n => ibits .and .u8 (n : Int) 63 == ((n % 64 : Nat) : Int)) = true := by decide +kernel
theorem and31_all : ((List.range 256).all fun n => ibits .and .u8 (n : Int) 31 == ((n % 32 : Nat) : Int)) = true := by decide +kernel
theorem and15_all : ((List.range 256).all fun n => ibits .and .u8 (n : Int) 15 == ((n % 16 : Nat) : Int)) = true := by decide +kernel
theorem and7_all : ((List.range 256).all fun n => ibits .and .u8 (n : Int) 7 == ((n % 8 : Nat) : Int)) = true := by decide +kernel
theorem byte_all {p : Nat → Bool} (h : ((List.range 256).all p) = true) {c : Int} (h0 : 0 ≤ c) (h1 : c ≤ 255) : ∃ n : Nat, c = n ∧ n < 256 ∧ p n = true := by
  obtain ⟨n, rfl⟩ := Int.eq_ofNat_of_zero_le h0
  exact ⟨n, rfl, by omega, List.all_eq_true.1 h n (List.mem_range.2 (by omega))⟩
theorem and63 {c : Int} (h0 : 0 ≤ c) (h1 : c ≤ 255) : ibits .and .u8 c 63 = c % 64 := by
  obtain ⟨n, rfl, h, hp⟩ := byte_all and63_all h0 h1
  rw [beq_iff_eq.1 hp]; omega
theorem and31 {c : Int} (h0 : 0 ≤ c) (h1 : c ≤ 255) : ibits .and .u8 c 31 = c % 32 := by
  obtain ⟨n, rfl, h, hp⟩ := byte_all and31_all h0 h1
  rw [beq_iff_eq.1 hp]; omega
theorem and15 {c : Int} (h0 : 0 ≤ c) (h1 : c ≤ 255) : ibits .and .u8 c 15 = c % 16 := by
  obtain ⟨n, rfl, h, hp⟩ := byte_all and15_all h0 h1
  rw [beq_iff_eq.1 hp]; omega
theorem and7 {c : Int} (h0 : 0 ≤ c) (h1 : c ≤ 255) : ibits .and .u8 c 7 = c % 8 := by
  obtain ⟨n, rfl, h, hp⟩ := byte_all and7_all h0 h1
  rw [beq_iff_eq.1 hp]; omega
theorem wrap32 {n : Int} (h1 : -2147483648 ≤ n) (h2 : n ≤ 2147483647) : IntKind.i32.wrap n = n := by
  simp only [IntKind.wrap, IntKind.signed, IntKind.bits]
  simp
  omega
theorem shl_or {r t : Int} (h0 : 0 ≤ r) (h1 : r < 1048576) (t0 : 0 ≤ t) (t1 : t < 64) : ibits .or .i32 (shiftBy .shl .i32 r 6) t = r * 64 + t := by
  obtain ⟨n, rfl⟩ := Int.eq_ofNat_of_zero_le h0
  obtain ⟨m, rfl⟩ := Int.eq_ofNat_of_zero_le t0
  have e1 : shiftBy .shl .i32 (n : Int) 6 = ((2 ^ 6 * n : Nat) : Int) := by
    have : shiftBy .shl .i32 (n : Int) 6 = IntKind.i32.wrap ((n : Int) * 64) := rfl
    rw [this, wrap32 (by omega) (by omega)]; omega
  rw [e1]
  have e2 : ibits .or .i32 ((2 ^ 6 * n : Nat) : Int) (m : Int) = IntKind.i32.wrap ((BitVec.ofInt 32 ((2 ^ 6 * n : Nat) : Int) ||| BitVec.ofInt 32 (m : Int)).toNat : Int) := rfl
  rw [e2, BitVec.ofInt_natCast, BitVec.ofInt_natCast, BitVec.toNat_or, BitVec.toNat_ofNat, BitVec.toNat_ofNat, Nat.mod_eq_of_lt (by omega), Nat.mod_eq_of_lt (by omega), ← Nat.two_pow_add_eq_or_of_lt (by omega), wrap32 (by omega) (by omega)]
  omega

/-! ### a place's bytes -/
/-- the byte so far behind a place; 256: none -/
def gg (b : List Int) (p i : Nat) : Int := b.getD (p + i) 256
def Bytes (b : List Int) : Prop := ∀ c ∈ b, 0 ≤ c ∧ c ≤ 255
theorem gg_in {b : List Int} (hb : Bytes b) {p i : Nat} (h : p + i < b.length) : 0 ≤ gg b p i ∧ gg b p i ≤ 255 := hb _ (by simp [gg, List.getD, h])
theorem gg_out {b : List Int} {p i : Nat} (h : b.length ≤ p + i) : gg b p i = 256 := getD_len h
theorem gg_lt {b : List Int} {p i : Nat} (h : gg b p i ≤ 255) : p + i < b.length := by
  by_cases h2 : p + i < b.length
  · exact h2
  · have := gg_out (b := b) (p := p) (i := i) (by omega); omega
theorem gg_nonneg {b : List Int} (hb : Bytes b) (p i : Nat) : 0 ≤ gg b p i := by
  by_cases h : p + i < b.length
  · exact (gg_in hb h).1
  · rw [gg_out (by omega)]; omega

def lead (c : Int) : Int × Int × Int :=
  if c < 128 then (1, 0, 0) else if c < 194 then (0, 0, 0) else if c < 224 then (2, 128, 191) else if c = 224 then (3, 160, 191) else if c = 237 then (3, 128, 159)
  else if c < 240 then (3, 128, 191) else if c = 240 then (4, 144, 191) else if c < 244 then (4, 128, 191) else if c = 244 then (4, 128, 143) else (0, 0, 0)
theorem lead_F (c : Int) : utf_lead_F c = some (lead c) := by
  unfold utf_lead_F utf_lead_T lead
  simp only [Tr.run_br, Tr.run_pure, decide_eq_true_eq, beq_iff_eq]
  (repeat' split) <;> first | rfl | omega
theorem lead_cases (c : Int) : (lead c = (1, 0, 0) ∧ c < 128) ∨ (lead c = (0, 0, 0) ∧ (128 ≤ c ∧ c < 194 ∨ 244 < c)) ∨ (lead c = (2, 128, 191) ∧ 194 ≤ c ∧ c < 224) ∨ (lead c = (3, 160, 191) ∧ c = 224) ∨ (lead c = (3, 128, 159) ∧ c = 237) ∨
    (lead c = (3, 128, 191) ∧ 225 ≤ c ∧ c < 240 ∧ c ≠ 237) ∨ (lead c = (4, 144, 191) ∧ c = 240) ∨ (lead c = (4, 128, 191) ∧ 241 ≤ c ∧ c < 244) ∨ (lead c = (4, 128, 143) ∧ c = 244) := by
  unfold lead
  (repeat' split) <;> simp <;> omega

/-- what four bytes begin with -/
def dec (c0 c1 c2 c3 : Int) : Int × Int × Bool :=
  if (lead c0).1 = 0 then (65533, 1, false) else if (lead c0).1 = 1 then (c0, 1, true)
  else if c1 < (lead c0).2.1 ∨ (lead c0).2.2 < c1 then (65533, 1, false)
  else if (lead c0).1 = 2 then (c0 % 32 * 64 + c1 % 64, 2, true)
  else if c2 < 128 ∨ 191 < c2 then (65533, 2, false)
  else if (lead c0).1 = 3 then ((c0 % 16 * 64 + c1 % 64) * 64 + c2 % 64, 3, true)
  else if c3 < 128 ∨ 191 < c3 then (65533, 3, false)
  else (((c0 % 8 * 64 + c1 % 64) * 64 + c2 % 64) * 64 + c3 % 64, 4, true)
def decAt (b : List Int) (p : Nat) : Int × Int × Bool := dec (gg b p 0) (gg b p 1) (gg b p 2) (gg b p 3)

noncomputable abbrev rdLoop : List Int × Int × Int × Int × Int × Int × Int → Option (Sum (Int × Int) (Int × Int × Bool)) :=
  loopW (fun s => (utf_read_L10 s.1 s.2.1 s.2.2.1 s.2.2.2.1 s.2.2.2.2.1 s.2.2.2.2.2.1 s.2.2.2.2.2.2).run)

theorem rd_bad {b : List Int} (hb : Bytes b) (hl : b.length ≤ 8388608) {p i : Nat} {s lo hi r : Int} (hi2 : hi ≤ 255) (hp : p < b.length) (his : (i : Int) < s) (hi4 : i < 4) (h : gg b p i < lo ∨ hi < gg b p i) :
    rdLoop (b, (p : Int), s, lo, hi, r, (i : Int)) = some (.inr (65533, (i : Int), false)) := by
  refine loopW_done (Post.run ?_)
  dsimp only
  unfold utf_read_L10
  have h64 : IntKind.i64.wrap ((b.length : Int) - (p : Int)) = (b.length : Int) - p := wrap64 (by omega) (by omega)
  have h65 : IntKind.i64.wrap ((p : Int) + (i : Int)) = ((p + i : Nat) : Int) := by rw [wrap64 (by omega) (by omega)]; omega
  rw [h64, h65]
  refine Post.brT (by simpa using his) (Post.br (fun _ => Post.pure rfl) (fun h2 => ?_))
  have h2 : p + i < b.length := by
    have : ¬ (i : Int) ≥ (b.length : Int) - p := by simpa using h2
    omega
  refine Post.idx 256 (p + i) rfl h2 (Post.br (fun _ => Post.pure rfl) (fun h3 => Post.idx 256 (p + i) rfl h2 (Post.brT ?_ (Post.pure rfl))))
  have h3 : ¬ gg b p i < lo := of_decide_eq_false h3
  have : gg b p i > hi := by omega
  exact decide_eq_true this

theorem rd_more {b : List Int} (hb : Bytes b) (hl : b.length ≤ 8388608) {p i : Nat} {s lo hi r : Int} (hi2 : hi ≤ 255) (hp : p < b.length) (his : (i : Int) < s) (hi4 : i < 4) (h : ¬ (gg b p i < lo ∨ hi < gg b p i)) (r0 : 0 ≤ r) (r1 : r < 1048576)
    {R : Sum (Int × Int) (Int × Int × Bool)} (hR : rdLoop (b, (p : Int), s, 128, 191, r * 64 + gg b p i % 64, ((i + 1 : Nat) : Int)) = some R) :
    rdLoop (b, (p : Int), s, lo, hi, r, (i : Int)) = some R := by
  refine loopW_next (Post.run ?_) hR
  dsimp only
  unfold utf_read_L10
  have h64 : IntKind.i64.wrap ((b.length : Int) - (p : Int)) = (b.length : Int) - p := wrap64 (by omega) (by omega)
  have h65 : IntKind.i64.wrap ((p : Int) + (i : Int)) = ((p + i : Nat) : Int) := by rw [wrap64 (by omega) (by omega)]; omega
  have h66 : IntKind.i64.wrap ((i : Int) + 1) = ((i + 1 : Nat) : Int) := by rw [wrap64 (by omega) (by omega)]; omega
  rw [h64, h65, h66]
  have hlt : p + i < b.length := gg_lt (by omega)
  have hg := gg_in hb hlt
  have hk : ibits .or .i32 (shiftBy .shl .i32 r 6) (IntKind.i32.wrap (ibits .and .u8 (gg b p i) 63)) = r * 64 + gg b p i % 64 := by
    rw [and63 hg.1 hg.2, wrap32 (by omega) (by omega), shl_or r0 r1 (by omega) (by omega)]
  refine Post.brT (by simpa using his) (Post.brF (by simp; omega) (Post.idx 256 (p + i) rfl hlt (Post.brF ?_ (Post.idx 256 (p + i) rfl hlt (Post.brF ?_ (Post.idx 256 (p + i) rfl hlt (Post.pure ?_)))))))
  · have : ¬ gg b p i < lo := by omega
    exact decide_eq_false this
  · have : ¬ gg b p i > hi := by omega
    exact decide_eq_false this
  · rw [← hk]; rfl

theorem rd_end {b : List Int} {p : Int} {s lo hi r i : Int} (h : i = s) : rdLoop (b, p, s, lo, hi, r, i) = some (.inl (s, r)) := by
  refine loopW_done (Post.run ?_)
  dsimp only
  unfold utf_read_L10
  exact Post.brF (by simp; omega) (Post.pure rfl)

theorem read_F {b : List Int} (hb : Bytes b) (hl : b.length ≤ 8388608) {p : Nat} (hp : p < b.length) : utf_read_F b (p : Int) = some (decAt b p) := by
  unfold utf_read_F utf_read_T
  have hg : 0 ≤ gg b p 0 ∧ gg b p 0 ≤ 255 := gg_in hb (by omega)
  have e0 : b.getD p 256 = gg b p 0 := rfl
  refine Post.run (Post.brF (by simp) (Post.brF (by simp; omega) (Post.idx 256 p rfl hp (Post.bnd (lead_F _) ?_))))
  rw [e0]
  unfold decAt dec
  have hx : ∀ {s lo hi r0 : Int} (hs : 2 ≤ s) (hs4 : s ≤ 4) (h0 : 0 ≤ r0) (h1 : r0 < 64) (hhi : hi ≤ 255),
      rdLoop (b, (p : Int), s, lo, hi, r0, 1) = some (
        if gg b p 1 < lo ∨ hi < gg b p 1 then .inr (65533, 1, false)
        else if s = 2 then .inl (2, r0 * 64 + gg b p 1 % 64)
        else if gg b p 2 < 128 ∨ 191 < gg b p 2 then .inr (65533, 2, false)
        else if s = 3 then .inl (3, (r0 * 64 + gg b p 1 % 64) * 64 + gg b p 2 % 64)
        else if gg b p 3 < 128 ∨ 191 < gg b p 3 then .inr (65533, 3, false)
        else .inl (4, ((r0 * 64 + gg b p 1 % 64) * 64 + gg b p 2 % 64) * 64 + gg b p 3 % 64)) := by
    intro s lo hi r0 hs hs4 h0 h1 hhi
    by_cases b1 : gg b p 1 < lo ∨ hi < gg b p 1
    · rw [if_pos b1]; exact rd_bad hb hl hhi hp (i := 1) (by omega) (by omega) b1
    rw [if_neg b1]
    refine rd_more hb hl hhi hp (i := 1) (by omega) (by omega) b1 h0 (by omega) ?_
    by_cases s2 : s = 2
    · rw [if_pos s2]; subst s2; exact rd_end rfl
    rw [if_neg s2]
    by_cases b2 : gg b p 2 < 128 ∨ 191 < gg b p 2
    · rw [if_pos b2]; exact rd_bad hb hl (by omega) hp (i := 2) (by omega) (by omega) b2
    rw [if_neg b2]
    refine rd_more hb hl (by omega) hp (i := 2) (by omega) (by omega) b2 (by omega) (by omega) ?_
    by_cases s3 : s = 3
    · rw [if_pos s3]; subst s3; exact rd_end rfl
    rw [if_neg s3]
    by_cases b3 : gg b p 3 < 128 ∨ 191 < gg b p 3
    · rw [if_pos b3]; exact rd_bad hb hl (by omega) hp (i := 3) (by omega) (by omega) b3
    rw [if_neg b3]
    refine rd_more hb hl (by omega) hp (i := 3) (by omega) (by omega) b3 (by omega) (by omega) ?_
    have s4 : s = 4 := by omega
    subst s4; exact rd_end rfl
  have fin : ∀ {s lo hi r0 m : Int} (hs : 2 ≤ s) (hs4 : s ≤ 4) (h0 : 0 ≤ m) (h1 : m < 64) (hhi : hi ≤ 255) (_ : r0 = m),
      Post (.alt (rdLoop (b, (p : Int), s, lo, hi, r0, 1)) (fun l_8 => .pure (l_8.2, l_8.1, true)) (fun l_9 => .pure (l_9.1, l_9.2.1, l_9.2.2)))
        (· = if gg b p 1 < lo ∨ hi < gg b p 1 then (65533, 1, false)
          else if s = 2 then (m * 64 + gg b p 1 % 64, 2, true)
          else if gg b p 2 < 128 ∨ 191 < gg b p 2 then (65533, 2, false)
          else if s = 3 then ((m * 64 + gg b p 1 % 64) * 64 + gg b p 2 % 64, 3, true)
          else if gg b p 3 < 128 ∨ 191 < gg b p 3 then (65533, 3, false)
          else (((m * 64 + gg b p 1 % 64) * 64 + gg b p 2 % 64) * 64 + gg b p 3 % 64, 4, true)) := by
    intro s lo hi r0 m hs hs4 h0 h1 hhi e
    subst e
    have h := hx hs hs4 h0 h1 (lo := lo) hhi
    refine Post.alt ⟨_, h, rfl⟩ (fun l hl => ?_) (fun l hl => ?_)
    all_goals
      refine Post.pure ?_
      revert hl
      (repeat' split) <;> intro hl <;> cases hl <;> rfl
  have w32 : ∀ {x : Int}, 0 ≤ x → x < 64 → IntKind.i32.wrap x = x := fun h1 h2 => wrap32 (by omega) (by omega)
  have x2 : ibits .and .u8 (gg b p 0) (shiftBy .shr .u8 127 2) = gg b p 0 % 32 := and31 hg.1 hg.2
  have x3 : ibits .and .u8 (gg b p 0) (shiftBy .shr .u8 127 3) = gg b p 0 % 16 := and15 hg.1 hg.2
  have x4 : ibits .and .u8 (gg b p 0) (shiftBy .shr .u8 127 4) = gg b p 0 % 8 := and7 hg.1 hg.2
  rcases lead_cases (gg b p 0) with ⟨e, hc⟩ | ⟨e, hc⟩ | ⟨e, hc⟩ | ⟨e, hc⟩ | ⟨e, hc⟩ | ⟨e, hc⟩ | ⟨e, hc⟩ | ⟨e, hc⟩ | ⟨e, hc⟩ <;> rw [e] <;> dsimp only
  · refine Post.brF rfl (Post.brT rfl (Post.idx 256 p rfl hp (Post.pure ?_)))
    rw [e0, wrap32 (by omega) (by omega)]; rfl
  · exact Post.brT rfl (Post.pure rfl)
  · refine Post.brF rfl (Post.brF rfl (Post.idx 256 p rfl hp (Post.brT rfl ?_)))
    rw [e0, x2, w32 (by omega) (by omega)]
    exact fin (by omega) (by omega) (by omega) (by omega) (by omega) rfl
  · refine Post.brF rfl (Post.brF rfl (Post.idx 256 p rfl hp (Post.brT rfl ?_)))
    rw [e0, x3, w32 (by omega) (by omega)]
    exact fin (by omega) (by omega) (by omega) (by omega) (by omega) rfl
  · refine Post.brF rfl (Post.brF rfl (Post.idx 256 p rfl hp (Post.brT rfl ?_)))
    rw [e0, x3, w32 (by omega) (by omega)]
    exact fin (by omega) (by omega) (by omega) (by omega) (by omega) rfl
  · refine Post.brF rfl (Post.brF rfl (Post.idx 256 p rfl hp (Post.brT rfl ?_)))
    rw [e0, x3, w32 (by omega) (by omega)]
    exact fin (by omega) (by omega) (by omega) (by omega) (by omega) rfl
  · refine Post.brF rfl (Post.brF rfl (Post.idx 256 p rfl hp (Post.brT rfl ?_)))
    rw [e0, x4, w32 (by omega) (by omega)]
    exact fin (by omega) (by omega) (by omega) (by omega) (by omega) rfl
  · refine Post.brF rfl (Post.brF rfl (Post.idx 256 p rfl hp (Post.brT rfl ?_)))
    rw [e0, x4, w32 (by omega) (by omega)]
    exact fin (by omega) (by omega) (by omega) (by omega) (by omega) rfl
  · refine Post.brF rfl (Post.brF rfl (Post.idx 256 p rfl hp (Post.brT rfl ?_)))
    rw [e0, x4, w32 (by omega) (by omega)]
    exact fin (by omega) (by omega) (by omega) (by omega) (by omega) rfl

end Go.Proofs.Ytecknolpakmlpaa
