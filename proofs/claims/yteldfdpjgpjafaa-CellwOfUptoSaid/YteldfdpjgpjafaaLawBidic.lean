/-
  The laws of bidic return true.
-/
import Derived.Test.YteldfdpjgpjafaaLawFind
namespace Go.Proofs.Yteldfdpjgpjafaa
set_option linter.all false

noncomputable def bidicT : List (Int × Int × Int) := bidic_rows_F.getD []
theorem bidic_rows : bidic_rows_F = some bidicT := by kernel_rfl
theorem bidicT_sorted : sortedB bidicT = true := by kernel_rfl
theorem bidicT_len : decide (bidicT.length ≤ 1000) = true := by kernel_rfl
theorem bidicT_max : (bidicT.all fun x => decide (x.2.2 ≤ 22)) = true := by kernel_rfl

theorem bidic_table : bidic_Table_F = some bidicT := by
  have hl : bidicT.length ≤ 1000 := of_decide_eq_true bidicT_len
  unfold bidic_Table_F bidic_Table_T
  refine Post.run (Post.bnd bidic_rows (Post.bnd (mk_eq (k := bidicT.length) rfl (by omega)) (Post.bnd (count (L := fun s : (List (Int × Int × Int)) × (List (Int × Int × Int)) × Int × Int => bidic_Table_L4 s.1 s.2.1 s.2.2.1 s.2.2.2) bidicT.length
    (fun k => (tab bidicT.length (fun i => if i < k then bidicT.getD i (0, 0, 0) else (0, 0, 0)), bidicT, (bidicT.length : Int), (k : Int))) ?_ (fun k hk => ?_) ?_) (Post.pure rfl))))
  · rw [tab_rep]; simp
  · dsimp only
    unfold bidic_Table_L4
    refine Post.brT (by simpa using hk) (Post.idx (0, 0, 0) k rfl hk ?_)
    refine Post.idx (0, 0, 0) 0 rfl (by simp) (Post.idx (0, 0, 0) 0 rfl (by simp) (Post.idx (0, 0, 0) 0 rfl (by simp) (Post.idx (0, 0, 0) k rfl (by rw [tab_len]; exact hk) (Post.pure ?_))))
    rw [wrap64 (by omega) (by omega), Int.toNat_natCast, tab_set]
    have e : tab bidicT.length (fun i => if i = k then bidicT.getD k (0, 0, 0) else if i < k then bidicT.getD i (0, 0, 0) else (0, 0, 0)) = tab bidicT.length (fun i => if i < k + 1 then bidicT.getD i (0, 0, 0) else (0, 0, 0)) := tab_congr fun p hp => by
      by_cases e : p = k
      · subst e; simp
      · by_cases h : p < k
        · rw [if_neg e, if_pos h, if_pos (by omega)]
        · rw [if_neg e, if_neg h, if_neg (by omega)]
    rw [← e]; rfl
  · dsimp only
    unfold bidic_Table_L4
    refine Post.brF (by simp) (Post.pure ?_)
    have e : tab bidicT.length (fun i => if i < bidicT.length then bidicT.getD i (0, 0, 0) else (0, 0, 0)) = bidicT := (tab_ext (0, 0, 0) rfl fun k hk => by rw [if_pos hk]).symm
    rw [e]

theorem bidic_of (rs : List Int) (hn : rs.length ≤ 4194304) : bidic_Of_F rs = some (tab rs.length fun i => finds bidicT (rs.getD i 0) 0) := by
  have hl : bidicT.length ≤ 1000 := of_decide_eq_true bidicT_len
  unfold bidic_Of_F bidic_Of_T
  refine Post.run (Post.bnd bidic_table (Post.bnd (mk_eq (k := rs.length) rfl (by omega)) (Post.bnd (count (L := fun s : (List (Int × Int × Int)) × List Int × List Int × Int × Int => bidic_Of_L4 s.1 s.2.1 s.2.2.1 s.2.2.2.1 s.2.2.2.2) rs.length
    (fun k => (bidicT, tab rs.length (fun i => if i < k then finds bidicT (rs.getD i 0) 0 else 0), rs, (rs.length : Int), (k : Int))) ?_ (fun k hk => ?_) ?_) (Post.pure rfl))))
  · rw [tab_rep]; simp
  · dsimp only
    unfold bidic_Of_L4
    refine Post.brT (by simpa using hk) (Post.idx 0 k rfl hk (Post.bnd (find_F _ _ _ (by omega)) (Post.idx 0 k rfl (by rw [tab_len]; exact hk) (Post.pure ?_))))
    rw [wrap64 (by omega) (by omega), Int.toNat_natCast, tab_set]
    have e : tab rs.length (fun i => if i = k then finds bidicT (rs.getD k 0) 0 else if i < k then finds bidicT (rs.getD i 0) 0 else 0) = tab rs.length (fun i => if i < k + 1 then finds bidicT (rs.getD i 0) 0 else 0) := tab_congr fun p hp => by
      by_cases e : p = k
      · subst e; simp
      · by_cases h : p < k
        · rw [if_neg e, if_pos h, if_pos (by omega)]
        · rw [if_neg e, if_neg h, if_neg (by omega)]
    rw [← e]; rfl
  · dsimp only
    unfold bidic_Of_L4
    refine Post.brF (by simp) (Post.pure ?_)
    have e : tab rs.length (fun i => if i < rs.length then finds bidicT (rs.getD i 0) 0 else 0) = tab rs.length (fun i => finds bidicT (rs.getD i 0) 0) := tab_congr fun k hk => by rw [if_pos hk]
    rw [e]

theorem awake04 : law04_awake_F = some true := by
  unfold law04_awake_F law04_awake_T
  have e : (tab 5 fun i => finds bidicT ([97, 1488, 1633, 49, 8295].getD i 0) 0) = [0, 1, 6, 3, 20] := by kernel_rfl
  have h : bidic_Of_F [97, 1488, 1633, 49, 8295] = some [0, 1, 6, 3, 20] := by
    rw [bidic_of [97, 1488, 1633, 49, 8295] (by simp)]; exact congrArg some e
  exact Post.run (Post.bnd h (Post.brT rfl (Post.idx 0 0 rfl (by simp) (Post.brT rfl (Post.idx 0 1 rfl (by simp) (Post.brT rfl (Post.idx 0 2 rfl (by simp) (Post.brT rfl (Post.idx 0 3 rfl (by simp) (Post.brT rfl (Post.idx 0 4 rfl (by simp) (Post.pure rfl))))))))))))

theorem iso_F (c : Int) : bidic_Isolate_F c = some (c == 19 || c == 20 || c == 21) := by
  unfold bidic_Isolate_F bidic_Isolate_T
  simp only [Tr.run_br, Tr.run_pure]
  by_cases h1 : c = 19 <;> by_cases h2 : c = 20 <;> simp_all
theorem strong_F (c : Int) : bidic_Strong_F c = some (c == 0 || c == 1 || c == 2) := by
  unfold bidic_Strong_F bidic_Strong_T
  simp only [Tr.run_br, Tr.run_pure]
  by_cases h1 : c = 0 <;> by_cases h2 : c = 1 <;> simp_all
theorem emb_F (c : Int) : bidic_Embedding_F c = some (c == 14 || c == 16 || c == 15 || c == 17) := by
  unfold bidic_Embedding_F bidic_Embedding_T
  simp only [Tr.run_br, Tr.run_pure]
  by_cases h1 : c = 14 <;> by_cases h2 : c = 15 <;> by_cases h3 : c = 16 <;> by_cases h4 : c = 17 <;> simp_all
theorem taken_F (c : Int) : bidic_Taken_F c = some (c == 14 || c == 15 || c == 16 || c == 17 || c == 18 || c == 9) := by
  unfold bidic_Taken_F bidic_Taken_T
  rw [Tr.run_bnd_some (emb_F c)]
  simp only [Tr.run_br, Tr.run_pure]
  by_cases h1 : c = 14 <;> by_cases h2 : c = 15 <;> by_cases h3 : c = 16 <;> by_cases h4 : c = 17 <;> by_cases h5 : c = 18 <;> simp_all

theorem bidicKinds_F (k : Int) (_h0 : 0 ≤ k) : law04_BidicKinds_F k = some true := by
  unfold law04_BidicKinds_F law04_BidicKinds_T
  rw [Tr.run_bnd_some awake04, Tr.run_br, if_neg (by simp)]
  simp only [iso_F, strong_F, emb_F, taken_F]
  generalize k.tmod 32 = c
  by_cases hc : 0 ≤ c ∧ c ≤ 22
  · obtain ⟨n, hn, rfl⟩ : ∃ n : Nat, n < 23 ∧ c = (n : Int) := ⟨c.toNat, by omega, by omega⟩
    have : ∀ n : Nat, n < 23 → True := fun _ _ => trivial
    rcases n with _ | _ | _ | _ | _ | _ | _ | _ | _ | _ | _ | _ | _ | _ | _ | _ | _ | _ | _ | _ | _ | _ | _ | n <;> first | rfl | omega
  · have e : ∀ m : Int, 0 ≤ m → m ≤ 22 → (c == m) = false := fun m h1 h2 => by simp; omega
    simp only [e 0 (by omega) (by omega), e 1 (by omega) (by omega), e 2 (by omega) (by omega), e 9 (by omega) (by omega), e 14 (by omega) (by omega), e 15 (by omega) (by omega), e 16 (by omega) (by omega), e 17 (by omega) (by omega), e 18 (by omega) (by omega), e 19 (by omega) (by omega), e 20 (by omega) (by omega), e 21 (by omega) (by omega)]
    rfl

theorem bidicEach_F (rs : List Int) (k : Int) (hn : rs.length ≤ 4194304) (hk : 0 ≤ k ∧ k ≤ 65535) : law04_BidicEach_F rs k = some true := by
  unfold law04_BidicEach_F law04_BidicEach_T
  refine Post.run (Post.bnd awake04 (Post.brF rfl (Post.br (fun h => ?_) (fun h => ?_))))
  · have : rs = [] := by simpa using h
    subst this
    exact Post.bnd (bidic_of [] (by simp)) (Post.pure rfl)
  · have hl : rs.length ≠ 0 := by simpa using h
    obtain ⟨i, hi, hil⟩ : ∃ i : Nat, (IntKind.i64.wrap k).tmod (rs.length : Int) = (i : Int) ∧ i < rs.length := by
      rw [wrap64 (by omega) (by omega), Int.tmod_eq_emod_of_nonneg hk.1]
      have h1 := Int.emod_nonneg k (b := (rs.length : Int)) (by omega)
      have h2 := Int.emod_lt_of_pos k (b := (rs.length : Int)) (by omega)
      exact ⟨(k % (rs.length : Int)).toNat, by omega, by omega⟩
    rw [hi, wrap64 (by omega) (by omega)]
    have hcut : cut rs (i : Int) ((i : Int) + 1) = some [rs.getD i 0] := by
      rw [cut_drop (m := i) (n := i + 1) rfl (by omega) (by omega) (by omega)]
      congr 1
      apply List.ext_getElem?
      intro j
      rw [List.getElem?_drop, List.getElem?_take]
      cases j with
      | zero => simp [List.getD, hil]
      | succ j => simp
    refine Post.brT (by simpa using hl) (Post.bnd (bidic_of rs hn) (Post.bnd hcut (Post.bnd (bidic_of _ (by simp)) (Post.brT (by simp [tab_len]) (Post.brT (by simp [tab_len]) (Post.idx 0 i rfl (by rw [tab_len]; exact hil) (Post.idx 0 0 rfl (by rw [tab_len]; simp) (Post.pure ?_))))))))
    rw [tab_getD _ _ hil, tab_getD _ _ (by simp)]
    simp

theorem append_getD {a b : List Int} {k : Nat} (d : Int) : (a ++ b).getD k d = if k < a.length then a.getD k d else b.getD (k - a.length) d := by
  by_cases h : k < a.length
  · rw [if_pos h, List.getD_eq_getElem?_getD, List.getElem?_append_left h, ← List.getD_eq_getElem?_getD]
  · rw [if_neg h, List.getD_eq_getElem?_getD, List.getElem?_append_right (by omega), ← List.getD_eq_getElem?_getD]

theorem bidicParts_F (a b : List Int) (ha : a.length ≤ 2097152) (hb : b.length ≤ 2097152) : law04_BidicParts_F a b = some true := by
  unfold law04_BidicParts_F law04_BidicParts_T
  have hab : (a ++ b).length = a.length + b.length := by simp
  refine Post.run (Post.bnd awake04 (Post.brF rfl (Post.bnd (app_eq (by simp; omega)) (Post.bnd (app_eq (by simp; omega)) ?_))))
  rw [List.nil_append]
  refine Post.bnd (bidic_of a (by omega)) (Post.bnd (bidic_of b (by omega)) (Post.bnd (bidic_of (a ++ b) (by omega)) (Post.brF (by simp [tab_len]) (Post.brF (by simp [tab_len]) (Post.brF (by simp [tab_len]) (Post.altL (b := ()) ?_ (Post.pure rfl)))))))
  rw [tab_len]
  refine count (L := fun s : List Int × List Int × List Int × Int × Int => law04_BidicParts_L10 s.1 s.2.1 s.2.2.1 s.2.2.2.1 s.2.2.2.2) (a ++ b).length
    (fun k => (tab a.length fun i => finds bidicT (a.getD i 0) 0, tab b.length fun i => finds bidicT (b.getD i 0) 0, tab (a ++ b).length fun i => finds bidicT ((a ++ b).getD i 0) 0, ((a ++ b).length : Int), (k : Int))) rfl (fun k hk => ?_) ?_
  · dsimp only
    unfold law04_BidicParts_L10
    have hadd : IntKind.i64.wrap ((k : Int) + 1) = ((k + 1 : Nat) : Int) := by rw [wrap64 (by omega) (by omega)]; omega
    rw [hadd, tab_len]
    refine Post.brT (decide_eq_true (by omega)) (Post.idx 0 k rfl (by rw [tab_len]; exact hk) ?_)
    rw [tab_getD _ _ hk]
    have hm : finds bidicT ((a ++ b).getD k 0) 0 ≤ 22 := finds_mem bidicT_sorted _ _ (· ≤ 22) (by omega) (fun x hx => by
      have := List.all_eq_true.1 bidicT_max x hx
      simpa using this)
    refine Post.brF (decide_eq_false (by omega)) (Post.br (fun h => ?_) (fun h => ?_))
    · have h : k < a.length := by simpa using h
      refine Post.idx 0 k rfl (by rw [tab_len]; exact h) ?_
      rw [tab_getD _ _ h, append_getD, if_pos h]
      exact Post.brF (by simp) (Post.brF (by simp; omega) (Post.pure rfl))
    · have h : ¬ k < a.length := by simpa using h
      refine Post.brT (by simp; omega) (Post.idx 0 (k - a.length) (by rw [wrap64 (by omega) (by omega)]; omega) (by rw [tab_len]; omega) ?_)
      rw [tab_getD _ _ (by omega), append_getD, if_neg h]
      exact Post.brF (by simp) (Post.pure rfl)
  · dsimp only
    unfold law04_BidicParts_L10
    exact Post.brF (by simp) (Post.pure rfl)

theorem bidicKinds_all (x : Tys.I [.int .u8]) (h : WfAll [.int .u8] x) : law04_BidicKinds_F x.1 = some true :=
  bidicKinds_F _ (wf_u8 h.1).1
theorem bidicEach_all (x : Tys.I [.sl (.int .i32), .int .u16]) (h : WfAll [.sl (.int .i32), .int .u16] x) (hb : bulkAll [.sl (.int .i32), .int .u16] x ≤ 1048576) : law04_BidicEach_F x.1 x.2.1 = some true := by
  simp only [bulkAll, bulk] at hb
  exact bidicEach_F _ _ (by omega) (wf_u16 h.2.1)
theorem bidicParts_all (x : Tys.I [.sl (.int .i32), .sl (.int .i32)]) (_h : WfAll [.sl (.int .i32), .sl (.int .i32)] x) (hb : bulkAll [.sl (.int .i32), .sl (.int .i32)] x ≤ 1048576) : law04_BidicParts_F x.1 x.2.1 = some true := by
  simp only [bulkAll, bulk] at hb
  exact bidicParts_F _ _ (by omega) (by omega)

end Go.Proofs.Yteldfdpjgpjafaa
