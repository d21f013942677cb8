/-
  The laws of relevel return true: at a line's end.
-/
import Derived.Test.YtfojigpbnepdhaaLawRelevelB
namespace Go.Proofs.Ytfojigpbnepdhaa

theorem backL_blanks (t : List Int) : ∀ q : Nat, backL (List.replicate q 12 ++ t) = backL t
  | 0 => rfl
  | q + 1 => by
    rw [List.replicate_succ, List.cons_append]
    show (if (12 : Int) = 11 ∨ (12 : Int) = 10 then true else if blk 12 then backL (List.replicate q 12 ++ t) else false) = _
    rw [if_neg (by omega), show blk 12 = true from rfl, if_pos rfl]
    exact backL_blanks t q

/-- the classes from a place on: so many R, then so many WS, then others -/
theorem back_ends (m q k : Nat) (t : List Int) : backL ((List.replicate m 1 ++ (List.replicate q 12 ++ t)).drop k) = if k < m then false else backL (t.drop (k - (m + q))) := by
  by_cases h : k < m
  · rw [if_pos h, List.drop_append_of_le_length (by simp; omega), List.drop_replicate, show m - k = (m - k - 1) + 1 by omega, List.replicate_succ]
    rfl
  · rw [if_neg h, List.drop_append, List.drop_eq_nil_of_le (by simp; omega), List.nil_append, List.drop_append, List.drop_replicate, backL_blanks]
    simp only [List.length_replicate]
    congr 2; omega

theorem relevelEnds_F (ls : List Int) (blanks base : Int) (h1 : ls.length ≤ 2097152) (w1 : ∀ n ∈ ls, 0 ≤ n ∧ n ≤ 255) (w2 : 0 ≤ blanks ∧ blanks ≤ 255) (w3 : 0 ≤ base ∧ base ≤ 255) : law24_RelevelEnds_F ls blanks base = some true := by
  unfold law24_RelevelEnds_F law24_RelevelEnds_T
  refine Post.run ?_
  have hL := levels_F ls h1 w1
  generalize hl : (tab ls.length fun i => lev (ls.getD i 0)) = l at hL
  have hll : l.length = ls.length := by rw [← hl, tab_len]
  obtain ⟨q, hq, hq6⟩ : ∃ q : Nat, IntKind.i64.wrap (blanks.tmod 6) = (q : Int) ∧ q < 6 := by
    rw [Int.tmod_eq_emod_of_nonneg w2.1, wrap64 (by omega) (by omega)]
    exact ⟨(blanks % 6).toNat, by omega, by omega⟩
  obtain ⟨bs, hb, hb2⟩ : ∃ bs : Int, IntKind.i64.wrap (base.tmod 2) = bs ∧ (bs = 0 ∨ bs = 1) := by
    rw [Int.tmod_eq_emod_of_nonneg w3.1, wrap64 (by omega) (by omega)]
    exact ⟨_, rfl, by omega⟩
  refine Post.bnd awake_F (Post.brF rfl (Post.bnd hL ?_))
  -- the classes
  refine Post.bnd (b := (ls, blanks, base, l, List.replicate l.length 1)) (count (L := fun s : List Int × Int × Int × List Int × List Int × Int × Int => law24_RelevelEnds_L6 s.1 s.2.1 s.2.2.1 s.2.2.2.1 s.2.2.2.2.1 s.2.2.2.2.2.1 s.2.2.2.2.2.2) l.length
    (fun k => (ls, blanks, base, l, List.replicate k 1, (l.length : Int), (k : Int))) rfl (fun k hk => ?_) ?_) ?_
  · dsimp only
    unfold law24_RelevelEnds_L6
    refine Post.brT (by simpa using hk) (Post.bnd (app_eq (by simp; omega)) (Post.pure ?_))
    rw [wrap64 (by omega) (by omega), ← List.replicate_succ']; rfl
  · dsimp only
    unfold law24_RelevelEnds_L6
    exact Post.brF (by simp) (Post.pure rfl)
  dsimp only
  refine Post.bnd (b := (ls, base, l ++ List.replicate q 3, List.replicate l.length 1 ++ List.replicate q 12)) (count (L := fun s : List Int × Int × Int × List Int × List Int × Int => law24_RelevelEnds_L10 s.1 s.2.1 s.2.2.1 s.2.2.2.1 s.2.2.2.2.1 s.2.2.2.2.2) q
    (fun k => (ls, blanks, base, l ++ List.replicate k 3, List.replicate l.length 1 ++ List.replicate k 12, (k : Int))) ?_ (fun k hk => ?_) ?_) ?_
  · simp
  · dsimp only
    unfold law24_RelevelEnds_L10
    rw [hq]
    refine Post.brT (by simpa using hk) (Post.bnd (app_eq (by simp; omega)) (Post.bnd (app_eq (by simp; omega)) (Post.pure ?_)))
    rw [wrap64 (by omega) (by omega), List.append_assoc, List.append_assoc, ← List.replicate_succ', ← List.replicate_succ']; rfl
  · dsimp only
    unfold law24_RelevelEnds_L10
    rw [hq]
    exact Post.brF (by simp) (Post.pure rfl)
  dsimp only
  generalize hL1 : l ++ List.replicate q 3 = l1
  have hl1 : l1.length = l.length + q := by rw [← hL1]; simp
  have hg1 : ∀ k, l1.getD k 0 = if k < l.length then l.getD k 0 else if k < l.length + q then 3 else 0 := by
    intro k
    rw [← hL1]
    by_cases h : k < l.length
    · rw [List.getD_eq_getElem?_getD, List.getElem?_append_left h, ← List.getD_eq_getElem?_getD, if_pos h]
    · by_cases h2 : k < l.length + q
      · rw [List.getD_eq_getElem?_getD, List.getElem?_append_right (by omega), List.getElem?_replicate, if_pos (by omega), if_neg h, if_pos h2]; rfl
      · rw [if_neg h, if_neg h2, getD_len]
        simp only [List.length_append, List.length_replicate]; omega
  generalize hC1 : List.replicate l.length (1 : Int) ++ List.replicate q 12 = c1
  have hc1 : c1.length = l1.length := by rw [← hC1, hl1]; simp
  refine Post.bnd (mk_eq (k := l1.length) rfl (by omega)) ?_
  have hrl : ((List.replicate l1.length (0 : Int)).length : Int) = (l1.length : Int) := by simp
  rw [hrl]
  refine Post.bnd (b := (ls, base, l1, c1, List.replicate l1.length bs)) (count (L := fun s : List Int × Int × List Int × List Int × List Int × Int × Int => law24_RelevelEnds_L16 s.1 s.2.1 s.2.2.1 s.2.2.2.1 s.2.2.2.2.1 s.2.2.2.2.2.1 s.2.2.2.2.2.2) l1.length
    (fun k => (ls, base, l1, c1, tab l1.length (fun p => if p < k then bs else 0), (l1.length : Int), (k : Int))) ?_ (fun k hk => ?_) ?_) ?_
  · rw [tab_rep]; simp
  · dsimp only
    unfold law24_RelevelEnds_L16
    refine Post.brT (by simpa using hk) (Post.idx 0 k rfl (by rw [tab_len]; exact hk) (Post.pure ?_))
    rw [wrap64 (n := (k : Int) + 1) (by omega) (by omega), hb, Int.toNat_natCast, tab_set]
    have e : tab l1.length (fun p => if p = k then bs else if p < k then bs else 0) = tab l1.length (fun p => if p < k + 1 then bs else 0) := tab_congr fun p hp => by
      by_cases e : p = k
      · subst e; simp
      · by_cases h : p < k
        · rw [if_neg e, if_pos h, if_pos (by omega)]
        · rw [if_neg e, if_neg h, if_neg (by omega)]
    rw [e]; rfl
  · dsimp only
    unfold law24_RelevelEnds_L16
    refine Post.brF (by simp) (Post.pure ?_)
    have e : tab l1.length (fun p => if p < l1.length then bs else 0) = tab l1.length (fun _ => bs) := tab_congr fun p hp => by rw [if_pos hp]
    rw [tab_rep, e]
  dsimp only
  have hof := of_F l1 c1 (List.replicate l1.length bs) hc1 (by simp) (by omega)
  generalize hO : relev l1 c1 (List.replicate l1.length bs) = o at hof
  have hol : o.length = l1.length := by rw [← hO, relev, tab_len]
  have hog : ∀ k, k < l1.length → o.getD k 0 = if k < l.length then l.getD k 0 else bs := by
    intro k hk
    have hbk : backL (c1.drop k) = if k < l.length then false else true := by
      have := back_ends l.length q k []
      rw [List.append_nil, hC1] at this
      rw [this]; simp [backL]
    rw [← hO, relev, tab_getD _ _ hk, hbk, hg1]
    by_cases h : k < l.length
    · simp [h]
    · have : (List.replicate l1.length bs).getD k 0 = bs := by simp [List.getD, hk]
      simp only [this, if_neg h, if_pos (show k < l.length + q by omega)]
      simp
  refine Post.bnd hof (Post.brF (by simp [hol]) (Post.altL (b := (base, l1, c1, List.replicate l1.length bs)) (count (L := fun s : List Int × Int × List Int × List Int × List Int × List Int × Int × Int => law24_RelevelEnds_L24 s.1 s.2.1 s.2.2.1 s.2.2.2.1 s.2.2.2.2.1 s.2.2.2.2.2.1 s.2.2.2.2.2.2.1 s.2.2.2.2.2.2.2) o.length
    (fun k => (ls, base, l1, c1, List.replicate l1.length bs, o, (o.length : Int), (k : Int))) rfl (fun k hk => ?_) ?_) ?_))
  · dsimp only
    unfold law24_RelevelEnds_L24
    have hadd : IntKind.i64.wrap ((k : Int) + 1) = ((k + 1 : Nat) : Int) := by rw [wrap64 (by omega) (by omega)]; omega
    rw [hadd, hb]
    refine Post.brT (by simpa using hk) (Post.br (fun h => ?_) (fun h => ?_))
    · have h : k < l.length := by rw [hll]; simpa using h
      refine Post.idx 0 k rfl hk (Post.idx 0 k rfl (by omega) (Post.brF ?_ (Post.brF (by simp; omega) (Post.pure rfl))))
      rw [hog k (by omega), hg1, if_pos h, if_pos h]; simp
    · have h : ¬ k < l.length := by rw [hll]; simpa using h
      refine Post.brT (by simp; omega) (Post.idx 0 k rfl hk (Post.brF ?_ (Post.pure rfl)))
      rw [hog k (by omega), if_neg h]; simp
  · dsimp only
    unfold law24_RelevelEnds_L24
    exact Post.brF (by simp) (Post.pure rfl)
  dsimp only
  rw [hb]
  refine Post.bnd (app_eq (by simp; omega)) (Post.bnd (app_eq (by simp; omega)) (Post.bnd (app_eq (by simp; omega)) ?_))
  have hof2 := of_F (l1 ++ [1]) (c1 ++ [1]) (List.replicate l1.length bs ++ [bs]) (by simp [hc1]) (by simp) (by simp; omega)
  have hsame : relev (l1 ++ [1]) (c1 ++ [1]) (List.replicate l1.length bs ++ [bs]) = l1 ++ [1] := by
    refine (tab_ext 0 rfl fun k hk => ?_).symm
    have hbk : backL ((c1 ++ [1]).drop k) = false := by
      have := back_ends l.length q k [1]
      rw [← List.append_assoc, hC1] at this
      rw [this]
      split
      · rfl
      · have : k - (l.length + q) = 0 := by simp at hk; omega
        rw [this]; rfl
    rw [hbk, if_neg (by simp)]
  rw [hsame] at hof2
  refine Post.bnd hof2 (Post.brF (by simp) (Post.altL (b := ()) (count (L := fun s : List Int × List Int × Int × Int => law24_RelevelEnds_L36 s.1 s.2.1 s.2.2.1 s.2.2.2) (l1 ++ [1]).length
    (fun k => (l1 ++ [1], l1 ++ [1], ((l1 ++ [1]).length : Int), (k : Int))) rfl (fun k hk => ?_) ?_) (Post.pure rfl)))
  · dsimp only
    unfold law24_RelevelEnds_L36
    have : (l1 ++ [1]).length = l1.length + 1 := by simp
    refine Post.brT (decide_eq_true (by omega)) (Post.idx 0 k rfl hk (Post.idx 0 k rfl hk (Post.brF (by simp) (Post.pure ?_))))
    rw [wrap64 (by omega) (by omega)]; rfl
  · dsimp only
    unfold law24_RelevelEnds_L36
    exact Post.brF (by simp) (Post.pure rfl)

theorem relevelOf_all (x : Tys.I [.sl (.int .u8), .sl (.int .u8), .sl (.int .u8)]) (h : WfAll [.sl (.int .u8), .sl (.int .u8), .sl (.int .u8)] x) (hb : bulkAll [.sl (.int .u8), .sl (.int .u8), .sl (.int .u8)] x ≤ 1048576) :
    law24_RelevelOf_F x.1 x.2.1 x.2.2.1 = some true := by
  simp only [bulkAll, bulk] at hb
  exact relevelOf_F _ _ _ (by omega) (by omega) (by omega) (fun n hn => wf_u8 (h.1.2 n hn)) (fun n hn => wf_u8 (h.2.1.2 n hn)) (fun n hn => wf_u8 (h.2.2.1.2 n hn))
theorem relevelTwice_all (x : Tys.I [.sl (.int .u8), .sl (.int .u8), .sl (.int .u8)]) (h : WfAll [.sl (.int .u8), .sl (.int .u8), .sl (.int .u8)] x) (hb : bulkAll [.sl (.int .u8), .sl (.int .u8), .sl (.int .u8)] x ≤ 1048576) :
    law24_RelevelTwice_F x.1 x.2.1 x.2.2.1 = some true := by
  simp only [bulkAll, bulk] at hb
  exact relevelTwice_F _ _ _ (by omega) (by omega) (by omega) (fun n hn => wf_u8 (h.1.2 n hn)) (fun n hn => wf_u8 (h.2.1.2 n hn)) (fun n hn => wf_u8 (h.2.2.1.2 n hn))
theorem relevelEnds_all (x : Tys.I [.sl (.int .u8), .int .u8, .int .u8]) (h : WfAll [.sl (.int .u8), .int .u8, .int .u8] x) (hb : bulkAll [.sl (.int .u8), .int .u8, .int .u8] x ≤ 1048576) :
    law24_RelevelEnds_F x.1 x.2.1 x.2.2.1 = some true := by
  simp only [bulkAll, bulk] at hb
  exact relevelEnds_F _ _ _ (by omega) (fun n hn => wf_u8 (h.1.2 n hn)) (wf_u8 h.2.1) (wf_u8 h.2.2.1)

end Go.Proofs.Ytfojigpbnepdhaa
