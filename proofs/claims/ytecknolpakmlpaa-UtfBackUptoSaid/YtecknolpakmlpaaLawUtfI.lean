/-
  The laws of utf: there and back.
-/
import Derived.Test.YtecknolpakmlpaaLawUtfH
namespace Go.Proofs.Ytecknolpakmlpaa
set_option linter.all false

theorem enc0_three {c0 c1 c2 : Int} (a0 : 224 ≤ c0 ∧ c0 < 240) (a1 : 128 ≤ c1 ∧ c1 ≤ 191) (a2 : 128 ≤ c2 ∧ c2 ≤ 191) (h : c0 = 224 → 160 ≤ c1) : enc0 ((c0 % 16 * 64 + c1 % 64) * 64 + c2 % 64) = [c0, c1, c2] := by
  unfold enc0
  rw [if_neg (by omega), if_neg (by omega), if_pos (by omega)]
  congr 1
  · omega
  · congr 1
    · omega
    · congr 1; omega
theorem enc0_four {c0 c1 c2 c3 : Int} (a0 : 240 ≤ c0 ∧ c0 < 245) (a1 : 128 ≤ c1 ∧ c1 ≤ 191) (a2 : 128 ≤ c2 ∧ c2 ≤ 191) (a3 : 128 ≤ c3 ∧ c3 ≤ 191) (h : c0 = 240 → 144 ≤ c1) : enc0 (((c0 % 8 * 64 + c1 % 64) * 64 + c2 % 64) * 64 + c3 % 64) = [c0, c1, c2, c3] := by
  unfold enc0
  rw [if_neg (by omega), if_neg (by omega), if_neg (by omega)]
  congr 1
  · omega
  · congr 1
    · omega
    · congr 1
      · omega
      · congr 1; omega
/-- what is read well is written so -/
theorem dec_back {c0 c1 c2 c3 : Int} (h0 : 0 ≤ c0) (hd : (dec c0 c1 c2 c3).2.2 = true) : enc0 (dec c0 c1 c2 c3).1 = [c0, c1, c2, c3].take (dec c0 c1 c2 c3).2.1.toNat := by
  generalize hx : dec c0 c1 c2 c3 = d at *
  unfold dec at hx
  rcases lead_cases c0 with ⟨e, hc⟩ | ⟨e, hc⟩ | ⟨e, hc⟩ | ⟨e, hc⟩ | ⟨e, hc⟩ | ⟨e, hc⟩ | ⟨e, hc⟩ | ⟨e, hc⟩ | ⟨e, hc⟩ <;> rw [e] at hx <;> dsimp only at hx
  · rw [if_neg (by decide), if_pos rfl] at hx
    subst hx
    show enc0 c0 = [c0]
    unfold enc0
    rw [if_pos hc]
  · rw [if_pos rfl] at hx
    subst hx
    cases hd
  · rw [if_neg (by decide), if_neg (by decide)] at hx
    split at hx
    · subst hx; cases hd
    · rename_i n1
      rw [if_pos rfl] at hx
      subst hx
      show enc0 (c0 % 32 * 64 + c1 % 64) = [c0, c1]
      unfold enc0
      rw [if_neg (by omega), if_pos (by omega)]
      congr 1
      · omega
      · congr 1; omega
  all_goals
    rw [if_neg (by decide), if_neg (by decide)] at hx
    split at hx
    · subst hx; cases hd
    · rename_i n1
      rw [if_neg (by decide)] at hx
      split at hx
      · subst hx; cases hd
      · rename_i n2
        first
          | (rw [if_pos rfl] at hx
             subst hx
             exact enc0_three (by omega) (by omega) (by omega) (by omega))
          | (rw [if_neg (by decide)] at hx
             split at hx
             · subst hx; cases hd
             · rename_i n3
               subst hx
               exact enc0_four (by omega) (by omega) (by omega) (by omega) (by omega))
theorem dec_bad {c0 c1 c2 c3 : Int} (h : (dec c0 c1 c2 c3).2.2 = false) : (dec c0 c1 c2 c3).1 = 65533 := by
  generalize hx : dec c0 c1 c2 c3 = d at *
  unfold dec at hx
  (repeat' (split at hx)) <;> subst hx <;> first | rfl | cases h
theorem decAt_scl {b : List Int} (hb : Bytes b) (p : Nat) : fixr (decAt b p).1 = (decAt b p).1 := by
  have this : 0 ≤ (decAt b p).1 ∧ (decAt b p).1 < 55296 ∨ 57343 < (decAt b p).1 ∧ (decAt b p).1 ≤ 1114111 := (dec_ok (gg_nonneg hb p 0) (gg_nonneg hb p 1) (gg_nonneg hb p 2) (gg_nonneg hb p 3)).2.1
  unfold fixr scl
  rw [if_pos (decide_eq_true this)]
theorem drop_get {b : List Int} {p i : Nat} (h : p + i < b.length) : (b.drop p)[i]? = some (gg b p i) := by
  rw [List.getElem?_drop, List.getElem?_eq_getElem h]
  unfold gg
  rw [List.getD, List.getElem?_eq_getElem h]
  rfl
theorem take_gg {b : List Int} {p n : Nat} (h : p + n ≤ b.length) (hn : n ≤ 4) : (b.drop p).take n = [gg b p 0, gg b p 1, gg b p 2, gg b p 3].take n := by
  apply List.ext_getElem?
  intro i
  rw [List.getElem?_take, List.getElem?_take]
  by_cases hi : i < n
  · rw [if_pos hi, if_pos hi, drop_get (by omega)]
    match i, (show i < 4 by omega) with
    | 0, _ => rfl
    | 1, _ => rfl
    | 2, _ => rfl
    | 3, _ => rfl
  · rw [if_neg hi, if_neg hi]
/-- from a place on all is read well -/
def okFrom (b : List Int) : Nat → Nat → Bool
  | 0, _ => true
  | f + 1, p => if p < b.length then (decAt b p).2.2 && okFrom b f (p + sz b p) else true
theorem okFrom_succ (b : List Int) (f p : Nat) : okFrom b (f + 1) p = if p < b.length then (decAt b p).2.2 && okFrom b f (p + sz b p) else true := rfl
theorem enc_at {b : List Int} (hb : Bytes b) {p : Nat} (hp : p < b.length) (h : (decAt b p).2.2 = true) : enc (decAt b p).1 = (b.drop p).take (sz b p) := by
  have hs := sz_eq hb p
  have hin := sz_in hb hp
  unfold enc
  rw [decAt_scl hb p, take_gg hin hs.2.2]
  exact dec_back (gg_nonneg hb p 0) h
/-- what is read well comes back, and nothing else -/
theorem back_from {b : List Int} (hb : Bytes b) : ∀ f p, b.length ≤ f + p → p ≤ b.length → (okFrom b f p = true ↔ encs (vals b (starts b f p)) = b.drop p)
  | 0, p, h, hp => by
    have : p = b.length := by omega
    subst this
    simp [okFrom, starts, vals, encs]
  | f + 1, p, h, hp => by
    rw [okFrom_succ, starts_succ]
    by_cases hlt : p < b.length
    · rw [if_pos hlt, if_pos hlt]
      have hs := sz_eq hb p
      have hin := sz_in hb hlt
      have ih := back_from hb f (p + sz b p) (by omega) hin
      show _ ↔ enc (decAt b p).1 ++ encs (vals b (starts b f (p + sz b p))) = b.drop p
      by_cases hv : (decAt b p).2.2 = true
      · rw [hv, Bool.true_and, ih, enc_at hb hlt hv]
        have e : b.drop p = (b.drop p).take (sz b p) ++ b.drop (p + sz b p) := by rw [← List.drop_drop, List.take_append_drop]
        constructor
        · intro h; rw [h, ← e]
        · intro h
          rw [e] at h
          have h := List.append_inj_right h (by rw [List.length_take, List.length_take, List.length_append, List.length_take, List.length_drop, List.length_drop]; omega)
          exact h
      · have hv : (decAt b p).2.2 = false := by simpa using hv
        rw [hv, Bool.false_and]
        constructor
        · intro h; cases h
        · intro h
          exfalso
          have hbad : (decAt b p).1 = 65533 := dec_bad hv
          rw [hbad] at h
          have h : [239, 191, 189] ++ encs (vals b (starts b f (p + sz b p))) = b.drop p := h
          have hl : p + 3 ≤ b.length := by
            have := congrArg List.length h
            rw [List.length_append, List.length_drop] at this
            simp only [List.length_cons, List.length_nil] at this
            omega
          have g : ∀ i, i < 3 → ([239, 191, 189] : List Int)[i]? = some (gg b p i) := fun i hi => by
            rw [← drop_get (by omega), ← h, List.getElem?_append_left (by simpa using hi)]
          have g0 : (239 : Int) = gg b p 0 := Option.some.inj (g 0 (by omega))
          have g1 : (191 : Int) = gg b p 1 := Option.some.inj (g 1 (by omega))
          have g2 : (189 : Int) = gg b p 2 := Option.some.inj (g 2 (by omega))
          unfold decAt at hv
          rw [← g0, ← g1, ← g2] at hv
          have : (dec 239 191 189 (gg b p 3)).2.2 = true := rfl
          rw [this] at hv
          cases hv
    · rw [if_neg hlt, if_neg hlt]
      have : p = b.length := by omega
      subst this
      simp [vals, encs]
theorem valid_F {b : List Int} (hb : Bytes b) (hl : b.length ≤ 8388608) : utf_Valid_F b = some (okFrom b b.length 0) := by
  have key : ∀ f p, b.length ≤ f + p → p ≤ b.length → loopW (fun s : List Int × Int => (utf_Valid_L2 s.1 s.2).run) (b, (p : Int)) = some (if okFrom b f p = true then .inl () else .inr false) := fun f => by
    induction f with
    | zero =>
      intro p h hp
      refine loopW_done (Post.run ?_)
      dsimp only
      unfold utf_Valid_L2
      exact Post.brF (decide_eq_false (by omega)) (Post.pure rfl)
    | succ f ih =>
      intro p h hp
      rw [okFrom_succ]
      by_cases hlt : p < b.length
      · rw [if_pos hlt]
        have hs := sz_eq hb p
        have hin := sz_in hb hlt
        have hrd : utf_read_F b (p : Int) = some (decAt b p) := read_F hb hl hlt
        by_cases hv : (decAt b p).2.2 = true
        · rw [hv, Bool.true_and]
          refine loopW_next (Post.run ?_) (ih (p + sz b p) (by omega) hin)
          dsimp only
          unfold utf_Valid_L2
          refine Post.brT (decide_eq_true (by omega)) (Post.bnd hrd (Post.brF (by rw [hv]; rfl) (Post.pure ?_)))
          rw [hs.1, wrap64 (by omega) (by omega)]
          congr 2
        · have hv : (decAt b p).2.2 = false := by simpa using hv
          rw [hv, Bool.false_and]
          refine loopW_done (Post.run ?_)
          dsimp only
          unfold utf_Valid_L2
          exact Post.brT (decide_eq_true (by omega)) (Post.bnd hrd (Post.brT (by rw [hv]; rfl) (Post.pure rfl)))
      · rw [if_neg hlt]
        refine loopW_done (Post.run ?_)
        dsimp only
        unfold utf_Valid_L2
        exact Post.brF (decide_eq_false (by omega)) (Post.pure rfl)
  unfold utf_Valid_F utf_Valid_T
  have h := key b.length 0 (by omega) (by omega)
  by_cases hk : okFrom b b.length 0 = true
  · rw [if_pos hk] at h
    rw [hk]
    exact Post.run (Post.altL h (Post.pure rfl))
  · rw [if_neg hk] at h
    have hk : okFrom b b.length 0 = false := by simpa using hk
    rw [hk]
    exact Post.run (Post.altR h (Post.pure rfl))
theorem strOf_inj : ∀ {a b : List Int}, Bytes a → Bytes b → (strOfNums a).toList = (strOfNums b).toList → a = b := by
  intro a b ha hb h
  have e : ∀ l : List Int, (strOfNums l).toList = l.map fun n => UInt8.ofNat n.toNat := fun l => ByteArray.toList_mk _
  rw [e, e] at h
  induction a generalizing b with
  | nil =>
    cases b with
    | nil => rfl
    | cons y b => cases h
  | cons x a ih =>
    cases b with
    | nil => cases h
    | cons y b =>
      rw [List.map_cons, List.map_cons] at h
      injection h with h1 h2
      have hx := ha x (by simp)
      have hy := hb y (by simp)
      have h3 := congrArg UInt8.toNat h1
      rw [UInt8.toNat_ofNat', UInt8.toNat_ofNat'] at h3
      have : x = y := by omega
      rw [this, ih (fun c hc => ha c (List.mem_cons_of_mem _ hc)) (fun c hc => hb c (List.mem_cons_of_mem _ hc)) h2]
theorem same_F {a b : List Int} (ha : Bytes a) (hb : Bytes b) : law01_same_F a b = some (decide (a = b)) := by
  unfold law01_same_F law01_same_T
  refine Post.run (Post.pure ?_)
  by_cases h : a = b
  · subst h; simp
  · rw [decide_eq_false h]
    have : ¬ (strOfNums a).toList = (strOfNums b).toList := fun e => h (strOf_inj ha hb e)
    simpa using this
theorem flt_take (p : Int → Bool) (cs : List Int) {k : Nat} (hk : k < cs.length) : (cs.take (k + 1)).filter p = (cs.take k).filter p ++ (if p (cs.getD k 0) then [cs.getD k 0] else []) := by
  have : cs.take (k + 1) = cs.take k ++ [cs.getD k 0] := by
    rw [List.take_succ]
    congr 1
    simp [List.getD, hk]
  rw [this, List.filter_append]
  congr 1
  generalize cs.getD k 0 = x
  cases h : p x <;> simp [List.filter, h]
theorem vals_len' (b : List Int) : (vals b (starts b b.length 0)).length ≤ b.length := by rw [vals_len]; exact starts_len b _ _
theorem utfBack_F (raw b : List Int) (hn : raw.length ≤ 1048576) (hl : b.length ≤ 1048576) (hb : Bytes b) : law01_UtfBack_F raw b = some true := by
  unfold law01_UtfBack_F law01_UtfBack_T
  refine Post.run (Post.bnd awake01 (Post.brF rfl (Post.bnd (count (L := fun s : List Int × List Int × List Int × Int => law01_UtfBack_L5 s.1 s.2.1 s.2.2.1 s.2.2.2) raw.length (fun k => (raw, b, (raw.take k).filter scl, ((k : Nat) : Int))) (r := (b, raw.filter scl)) rfl (fun k hk => ?_) ?_) ?_)))
  · dsimp only
    unfold law01_UtfBack_L5
    have hfl : ((raw.take k).filter scl).length ≤ raw.length := Nat.le_trans (List.length_filter_le _ _) (by rw [List.length_take]; omega)
    rw [flt_take scl raw hk, wrap_succ (k := k) (by omega)]
    refine Post.brT (decide_eq_true (by omega)) (Post.idx 0 k rfl hk (Post.bnd (scl_F _) (Post.br (fun c => Post.idx 0 k rfl hk (Post.bnd (app_eq (by simp only [List.length_singleton]; omega)) (Post.pure ?_))) (fun c => Post.pure ?_))))
    · rw [if_pos c]
    · rw [if_neg (by rw [c]; simp), List.append_nil]
  · dsimp only
    unfold law01_UtfBack_L5
    rw [List.take_of_length_le (Nat.le_refl _)]
    exact Post.brF (decide_eq_false (by omega)) (Post.pure rfl)
  dsimp only
  have hfl : (raw.filter scl).length ≤ raw.length := List.length_filter_le _ _
  have hsc : ∀ r ∈ raw.filter scl, fixr r = r := fun r hr => by
    have := (List.mem_filter.1 hr).2
    unfold fixr
    rw [if_pos this]
  generalize raw.filter scl = rs at hfl hsc
  have hbe := encs_bytes rs
  have hle := encs_len rs
  obtain ⟨w1, w2⟩ := starts_encs0 rs
  have hid : rs.map fixr = rs := by
    have : ∀ l : List Int, (∀ r ∈ l, fixr r = r) → l.map fixr = l := fun l => by
      induction l with
      | nil => intro _; rfl
      | cons x l ih => intro h; rw [List.map_cons, h x (by simp), ih fun r hr => h r (List.mem_cons_of_mem _ hr)]
    exact this rs hsc
  have hd := decode_F hbe (by omega)
  rw [w2, hid] at hd
  have hok : okFrom (encs rs) (encs rs).length 0 = true := by
    refine (back_from hbe (encs rs).length 0 (by omega) (by omega)).2 ?_
    rw [w2, hid]
    rfl
  have hval := valid_F hbe (by omega)
  rw [hok] at hval
  refine Post.bnd (encode_F rs (by omega)) (Post.bnd hd (Post.brF (by simp) (Post.bnd hval (Post.brF rfl (Post.altL (count (L := fun s : List Int × List Int × List Int × Int => law01_UtfBack_L14 s.1 s.2.1 s.2.2.1 s.2.2.2) rs.length (fun k => (b, rs, rs, ((k : Nat) : Int))) (r := Sum.inl b) rfl (fun k hk => ?_) ?_) ?_)))))
  · dsimp only
    unfold law01_UtfBack_L14
    refine Post.brT (decide_eq_true (by omega)) (Post.idx 0 k rfl hk (Post.idx 0 k rfl hk (Post.brF (by simp) (Post.pure ?_))))
    rw [wrap_succ (k := k) (by omega)]
  · dsimp only
    unfold law01_UtfBack_L14
    exact Post.brF (decide_eq_false (by omega)) (Post.pure rfl)
  · have hvl := vals_len' b
    have hbk := back_from hb b.length 0 (by omega) (by omega)
    rw [List.drop_zero] at hbk
    refine Post.bnd (decode_F hb (by omega)) (Post.bnd (valid_F hb (by omega)) (Post.bnd (encode_F _ (by dsimp only; omega)) (Post.bnd (same_F (encs_bytes _) hb) (Post.pure ?_))))
    dsimp only
    by_cases h : okFrom b b.length 0 = true
    · rw [h, decide_eq_true (hbk.1 h)]; rfl
    · have h2 : ¬ encs (vals b (starts b b.length 0)) = b := fun e => h (hbk.2 e)
      have h : okFrom b b.length 0 = false := by simpa using h
      rw [h, decide_eq_false h2]; rfl
theorem utfBack_all (x : Tys.I [.sl (.int .i32), .sl (.int .u8)]) (h : WfAll [.sl (.int .i32), .sl (.int .u8)] x) (hb : bulkAll [.sl (.int .i32), .sl (.int .u8)] x ≤ 1048576) : law01_UtfBack_F x.1 x.2.1 = some true := by
  simp only [bulkAll, bulk] at hb
  exact utfBack_F _ _ (by omega) (by omega) (fun n hn => wf_u8 (h.2.1.2 n hn))

end Go.Proofs.Ytecknolpakmlpaa
