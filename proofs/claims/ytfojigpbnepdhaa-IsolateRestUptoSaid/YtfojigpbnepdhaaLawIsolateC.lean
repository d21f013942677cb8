/-
  The laws of isolate return true: other classes change no match.
-/
import Derived.Test.YtfojigpbnepdhaaLawIsolateB
namespace Go.Proofs.Ytfojigpbnepdhaa

def sel (c : Int) : Bool := iso c || c == 22
/-- the places of beginnings and ends among so many classes -/
def ixs (cs : List Int) : Nat → List Nat
  | 0 => []
  | k + 1 => if sel (cs.getD k 0) = true then ixs cs k ++ [k] else ixs cs k
theorem ixs_succ (cs : List Int) (k : Nat) : ixs cs (k + 1) = if sel (cs.getD k 0) = true then ixs cs k ++ [k] else ixs cs k := rfl
theorem ixs_lt (cs : List Int) : ∀ k, ∀ i ∈ ixs cs k, i < k
  | 0, i, h => by cases h
  | k + 1, i, h => by
    rw [ixs_succ] at h
    split at h
    · rcases List.mem_append.1 h with h | h
      · have := ixs_lt cs k i h; omega
      · have : i = k := by simpa using h
        omega
    · have := ixs_lt cs k i h; omega
theorem ixs_len (cs : List Int) : ∀ k, (ixs cs k).length ≤ k
  | 0 => Nat.le_refl _
  | k + 1 => by
    have := ixs_len cs k
    rw [ixs_succ]
    split
    · rw [List.length_append, List.length_singleton]; omega
    · omega
theorem ixs_up (cs : List Int) : ∀ k, (ixs cs k).Pairwise (· < ·)
  | 0 => List.Pairwise.nil
  | k + 1 => by
    rw [ixs_succ]
    split
    · refine List.pairwise_append.2 ⟨ixs_up cs k, by simp, fun a ha b hb => ?_⟩
      have : b = k := by simpa using hb
      rw [this]; exact ixs_lt cs k a ha
    · exact ixs_up cs k
theorem ixs_pre (cs : List Int) {k : Nat} : ∀ n, k ≤ n → ixs cs k <+: ixs cs n
  | 0, h => by
    have : k = 0 := by omega
    rw [this]; exact List.prefix_refl _
  | n + 1, h => by
    by_cases e : k = n + 1
    · rw [e]; exact List.prefix_refl _
    · have ih := ixs_pre cs (k := k) n (by omega)
      rw [ixs_succ cs n]
      split
      · exact ih.trans (List.prefix_append _ _)
      · exact ih

theorem ix_at (cs : List Int) {k n : Nat} (h : k < n) (hs : sel (cs.getD k 0) = true) : (ixs cs n).getD (ixs cs k).length 0 = k ∧ (ixs cs k).length < (ixs cs n).length := by
  have hp := ixs_pre cs (k := k + 1) n (by omega)
  rw [ixs_succ, if_pos hs] at hp
  obtain ⟨t, ht⟩ := hp
  rw [← ht]
  constructor
  · rw [List.getD_eq_getElem?_getD, List.append_assoc, List.getElem?_append_right (Nat.le_refl _)]
    simp
  · simp

theorem ix_inj (cs : List Int) {n q r : Nat} (hq : q < (ixs cs n).length) (hr : r < (ixs cs n).length) (h : (ixs cs n).getD q 0 = (ixs cs n).getD r 0) : q = r := by
  have hup := List.pairwise_iff_getElem.1 (ixs_up cs n)
  have e : ∀ {j : Nat} (hj : j < (ixs cs n).length), (ixs cs n).getD j 0 = (ixs cs n)[j] := fun hj => by simp [List.getD, hj]
  rw [e hq, e hr] at h
  rcases Nat.lt_trichotomy q r with hlt | heq | hgt
  · have := hup q r hq hr hlt; omega
  · exact heq
  · have := hup r q hr hq hgt; omega

def few (cs : List Int) : List Int := (ixs cs cs.length).map fun i => cs.getD i 0
theorem few_len (cs : List Int) : (few cs).length = (ixs cs cs.length).length := by simp [few]
theorem few_get (cs : List Int) {q : Nat} (hq : q < (ixs cs cs.length).length) : (few cs).getD q 0 = cs.getD ((ixs cs cs.length).getD q 0) 0 := by
  unfold few
  rw [map_getD _ 0 0 hq]

/-- a match among the few, as one among all -/
def back (ix : List Nat) (v : Int) : Int := if v = -1 then -1 else (ix.getD v.toNat 0 : Int)

theorem few_rel (cs : List Int) : ∀ k, k ≤ cs.length → stk cs k = (stk (few cs) (ixs cs k).length).map (fun q => (ixs cs cs.length).getD q 0) ∧
    ∀ q, q < (ixs cs cs.length).length → mt cs k ((ixs cs cs.length).getD q 0) = back (ixs cs cs.length) (mt (few cs) (ixs cs k).length q)
  | 0, _ => ⟨rfl, fun q _ => rfl⟩
  | k + 1, hk => by
    obtain ⟨h1, h2⟩ := few_rel cs k (by omega)
    by_cases hs : sel (cs.getD k 0) = true
    · obtain ⟨e1, e2⟩ := ix_at cs (k := k) (n := cs.length) (by omega) hs
      have hl : (ixs cs (k + 1)).length = (ixs cs k).length + 1 := by rw [ixs_succ, if_pos hs, List.length_append]; rfl
      have hf : (few cs).getD (ixs cs k).length 0 = cs.getD k 0 := by rw [few_get cs e2, e1]
      rw [hl, stk_succ, stk_succ, hf]
      generalize hj : (ixs cs k).length = j at *
      by_cases hi : iso (cs.getD k 0) = true
      · rw [if_pos hi, if_pos hi]
        refine ⟨by rw [List.map_cons, e1, h1], fun q hq => ?_⟩
        rw [mt_succ, mt_succ, hf, if_pos hi, if_pos hi]
        exact h2 q hq
      · have h22 : cs.getD k 0 = 22 := by
          unfold sel at hs
          simp only [Bool.or_eq_true, beq_iff_eq] at hs
          exact hs.resolve_left hi
        rw [if_neg hi, if_neg hi, if_pos h22, if_pos h22]
        refine ⟨by rw [h1, List.map_tail], fun q hq => ?_⟩
        rw [mt_succ, mt_succ, hf, if_neg hi, if_neg hi, if_pos h22, if_pos h22, h1]
        cases hst : stk (few cs) j with
        | nil => exact h2 q hq
        | cons t s =>
          have ht := stk_lt (few cs) j t (by rw [hst]; simp)
          rw [List.map_cons]
          dsimp only
          have htl : t < (ixs cs cs.length).length := by omega
          by_cases a1 : q = t
          · subst a1
            rw [if_pos rfl, if_pos rfl]
            unfold back
            rw [if_neg (by omega), Int.toNat_natCast, e1]
          · rw [if_neg (fun e => a1 (ix_inj cs hq htl e)), if_neg a1]
            by_cases a2 : q = j
            · subst a2
              rw [if_pos e1, if_pos rfl]
              unfold back
              rw [if_neg (by omega), Int.toNat_natCast]
            · rw [if_neg (fun e => a2 (ix_inj cs hq e2 (by rw [e, e1]))), if_neg a2]
              exact h2 q hq
    · have hn : ¬ iso (cs.getD k 0) = true ∧ ¬ cs.getD k 0 = 22 := by
        unfold sel at hs
        simp only [Bool.or_eq_true, beq_iff_eq, not_or] at hs
        exact hs
      have hl : ixs cs (k + 1) = ixs cs k := by rw [ixs_succ, if_neg hs]
      rw [hl, stk_succ, if_neg hn.1, if_neg hn.2]
      refine ⟨h1, fun q hq => ?_⟩
      rw [mt_succ, if_neg hn.1, if_neg hn.2]
      exact h2 q hq

theorem isolateRest_F (ns : List Int) (h1 : ns.length ≤ 2097152) (w1 : ∀ n ∈ ns, 0 ≤ n ∧ n ≤ 255) : law09_IsolateRest_F ns = some true := by
  unfold law09_IsolateRest_F law09_IsolateRest_T
  generalize hc : (tab ns.length fun i => (ns.getD i 0) % 23) = cs
  have hcl : cs.length ≤ 2097152 := by rw [← hc, tab_len]; exact h1
  refine Post.run (Post.bnd awake09 (Post.brF rfl (Post.bnd (by rw [classes_F ns h1 w1, hc]) ?_)))
  have hix := ixs_len cs cs.length
  refine Post.bnd (b := (cs, few cs, (ixs cs cs.length).map (fun (i : Nat) => (i : Int)))) (count (L := fun s : List Int × List Int × List Int × Int × Int => law09_IsolateRest_L7 s.1 s.2.1 s.2.2.1 s.2.2.2.1 s.2.2.2.2) cs.length
    (fun k => (cs, (ixs cs k).map (fun i => cs.getD i 0), (ixs cs k).map (fun (i : Nat) => (i : Int)), (cs.length : Int), (k : Int))) rfl (fun k hk => ?_) ?_) ?_
  · dsimp only
    unfold law09_IsolateRest_L7
    have hk1 : IntKind.i64.wrap ((k : Int) + 1) = ((k + 1 : Nat) : Int) := by rw [wrap64 (by omega) (by omega)]; omega
    have hl := ixs_len cs k
    rw [hk1]
    refine Post.brT (by simpa using hk) (Post.idx 0 k rfl hk (Post.bnd (isoF _) (Post.br (fun h => ?_) (fun h => Post.br (fun h2 => ?_) (fun h2 => Post.pure ?_)))))
    · refine Post.bnd (app_eq (by simp only [List.length_map, List.length_singleton]; omega)) (Post.bnd (app_eq (by simp only [List.length_map, List.length_singleton]; omega)) (Post.pure ?_))
      rw [ixs_succ, if_pos (by unfold sel; rw [h]; rfl), List.map_append, List.map_append]; rfl
    · refine Post.bnd (app_eq (by simp only [List.length_map, List.length_singleton]; omega)) (Post.bnd (app_eq (by simp only [List.length_map, List.length_singleton]; omega)) (Post.pure ?_))
      rw [ixs_succ, if_pos (by unfold sel; rw [h2, Bool.or_true]), List.map_append, List.map_append]; rfl
    · rw [ixs_succ, if_neg (by unfold sel; rw [h, h2]; simp)]
  · dsimp only
    unfold law09_IsolateRest_L7
    exact Post.brF (by simp) (Post.pure rfl)
  dsimp only
  have hfl := few_len cs
  obtain ⟨_, hrel⟩ := few_rel cs cs.length (Nat.le_refl _)
  rw [← hfl] at hrel
  have hixlt : ∀ q, q < (few cs).length → (ixs cs cs.length).getD q 0 < cs.length := fun q hq => by
    refine ixs_lt cs cs.length _ ?_
    have : q < (ixs cs cs.length).length := by omega
    simp [List.getD, this]
  have hat : ∀ q, q < (few cs).length → ((ixs cs cs.length).map (fun (i : Nat) => (i : Int))).getD q 0 = ((ixs cs cs.length).getD q 0 : Int) := fun q hq => map_getD _ 0 0 (by omega)
  refine Post.bnd (match_F cs (by omega)) (Post.bnd (match_F (few cs) (by omega)) (Post.brF (by simp [tab_len]) (Post.brF (by simp [tab_len]) (Post.altL (b := ()) ?_ (Post.pure rfl)))))
  refine count (L := fun s : List Int × List Int × List Int × Int => law09_IsolateRest_L17 s.1 s.2.1 s.2.2.1 s.2.2.2) (few cs).length
    (fun k => ((ixs cs cs.length).map (fun (i : Nat) => (i : Int)), tab cs.length (fun i => mt cs cs.length i), tab (few cs).length (fun i => mt (few cs) (few cs).length i), (k : Int))) rfl (fun k hk => ?_) ?_
  · dsimp only
    unfold law09_IsolateRest_L17
    have hk1 : IntKind.i64.wrap ((k : Int) + 1) = ((k + 1 : Nat) : Int) := by rw [wrap64 (by omega) (by omega)]; omega
    have hmap : ((ixs cs cs.length).map (fun (i : Nat) => (i : Int))).length = (few cs).length := by rw [hfl]; simp
    have hr := hrel k (by omega)
    have hkx := hixlt k hk
    rw [hk1, tab_len]
    refine Post.brT (by simpa using hk) (Post.idx 0 k rfl (by rw [tab_len]; exact hk) (Post.idx 0 k rfl (by rw [hmap]; exact hk) ?_))
    rw [tab_getD _ _ hk, hat k hk]
    refine Post.idx 0 ((ixs cs cs.length).getD k 0) rfl (by rw [tab_len]; exact hkx) ?_
    rw [tab_getD _ _ hkx, hr]
    rcases mt_val (few cs) k hk with e | ⟨q, e, e2, _⟩
    · rw [e]
      refine Post.brF rfl (Post.idx 0 k rfl (by rw [tab_len]; exact hk) ?_)
      rw [tab_getD _ _ hk, e]
      exact Post.brF rfl (Post.pure rfl)
    · rw [e]
      have hb : back (ixs cs cs.length) (q : Int) = ((ixs cs cs.length).getD q 0 : Int) := by
        unfold back
        rw [if_neg (by omega), Int.toNat_natCast]
      rw [hb]
      have f1 : ((q : Int) == -1) = false := by simp
      have f2 : (((ixs cs cs.length).getD q 0 : Int) == -1) = false := by simp only [beq_eq_false_iff_ne, ne_eq]; omega
      refine Post.brF (by rw [f1, f2]; rfl) (Post.idx 0 k rfl (by rw [tab_len]; exact hk) ?_)
      rw [tab_getD _ _ hk, e]
      refine Post.brT (by simp only [bne, f1]; rfl) (Post.idx 0 k rfl (by rw [hmap]; exact hk) ?_)
      rw [hat k hk]
      refine Post.idx 0 ((ixs cs cs.length).getD k 0) rfl (by rw [tab_len]; exact hkx) ?_
      rw [tab_getD _ _ hkx, hr, e, hb]
      refine Post.idx 0 k rfl (by rw [tab_len]; exact hk) ?_
      rw [tab_getD _ _ hk, e]
      refine Post.idx 0 q rfl (by rw [hmap]; exact e2) ?_
      rw [hat q e2]
      exact Post.brF (by simp) (Post.pure rfl)
  · dsimp only
    unfold law09_IsolateRest_L17
    exact Post.brF (by rw [tab_len]; simp) (Post.pure rfl)

theorem isolateRest_all (x : Tys.I [.sl (.int .u8)]) (h : WfAll [.sl (.int .u8)] x) (hb : bulkAll [.sl (.int .u8)] x ≤ 1048576) : law09_IsolateRest_F x.1 = some true := by
  simp only [bulkAll, bulk] at hb
  exact isolateRest_F _ (by omega) (fun n hn => wf_u8 (h.1.2 n hn))

end Go.Proofs.Ytfojigpbnepdhaa
