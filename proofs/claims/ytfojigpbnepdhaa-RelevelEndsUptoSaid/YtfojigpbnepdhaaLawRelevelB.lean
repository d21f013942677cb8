/-
  The laws of relevel return true: which levels are brought back.
-/
import Derived.Test.YtfojigpbnepdhaaLawRelevel
namespace Go.Proofs.Ytfojigpbnepdhaa

theorem back_F (c : List Int) (k : Nat) (hk : k < c.length) (hn : c.length ≤ 2097152) : law24_back_F c (k : Int) = some (backL (c.drop k)) := by
  have hd : ∀ i, i < c.length → backL (c.drop i) = (if c.getD i 0 = 11 ∨ c.getD i 0 = 10 then true else if blk (c.getD i 0) then backL (c.drop (i + 1)) else false) := fun i hi => by rw [drop_cons hi]; rfl
  unfold law24_back_F law24_back_T
  refine Post.run ?_
  refine Post.idx 0 k rfl hk (Post.br (fun h1 => ?_) (fun h1 => Post.idx 0 k rfl hk (Post.br (fun h2 => ?_) (fun h2 => ?_))))
  · exact Post.pure (by rw [hd k hk, if_pos (.inl (by simpa using h1))])
  · exact Post.pure (by rw [hd k hk, if_pos (.inr (by simpa using h2))])
  · refine Post.alt (R := fun r => r = .inl () ∧ backL (c.drop k) = true ∨ r = .inr (backL (c.drop k))) (loop_ex (L := fun s : List Int × Int => law24_back_L4 s.1 s.2)
      (fun s => ∃ i : Nat, s = (c, (i : Int)) ∧ i ≤ c.length ∧ backL (c.drop k) = backL (c.drop i)) (fun s => c.length - s.2.toNat) ?_ ⟨k, rfl, by omega, rfl⟩) (fun b hb => ?_) (fun b hb => ?_)
    · rintro s ⟨i, rfl, hi, he⟩
      dsimp only
      unfold law24_back_L4
      refine Post.br (fun h => ?_) (fun h => Post.pure ?_)
      · have hil : i < c.length := by simpa using h
        rw [hd i hil] at he
        refine Post.idx 0 i rfl hil (Post.br (fun h1 => Post.pure (.inr ?_)) (fun h1 => Post.idx 0 i rfl hil (Post.br (fun h2 => Post.pure (.inr ?_)) (fun h2 => Post.idx 0 i rfl hil (Post.bnd (lblank_F _) (Post.br (fun h3 => Post.pure (.inr ?_)) (fun h3 => Post.pure ⟨⟨i + 1, ?_, by omega, ?_⟩, ?_⟩)))))))
        · rw [he, if_pos (.inl (by simpa using h1))]
        · rw [he, if_pos (.inr (by simpa using h2))]
        · have e1 : ¬ c.getD i 0 = 11 := by simpa using h1
          have e2 : ¬ c.getD i 0 = 10 := by simpa using h2
          have e3 : blk (c.getD i 0) = false := by revert h3; cases blk (c.getD i 0) <;> simp
          rw [he, if_neg (fun h => h.elim e1 e2), if_neg (by rw [e3]; simp)]
        · rw [wrap64 (by omega) (by omega)]; rfl
        · have e1 : ¬ c.getD i 0 = 11 := by simpa using h1
          have e2 : ¬ c.getD i 0 = 10 := by simpa using h2
          have e3 : blk (c.getD i 0) = true := by revert h3; cases blk (c.getD i 0) <;> simp
          rw [he, if_neg (fun h => h.elim e1 e2), if_pos e3]
        · rw [wrap64 (by omega) (by omega)]; omega
      · left
        have : i = c.length := by simp at h; omega
        subst this
        rw [List.drop_length] at he
        exact ⟨rfl, he⟩
    · rcases hb with ⟨_, hb⟩ | hb
      · exact Post.pure hb.symm
      · cases hb
    · rcases hb with ⟨hb, _⟩ | hb
      · cases hb
      · cases hb; exact Post.pure rfl

theorem of_any (l c b : List Int) (hn : l.length ≤ 2097152) : ∃ o, relevel_Of_F l c b = some o ∧ o.length = l.length ∧ ((c.length ≠ l.length ∨ b.length ≠ l.length) → o = l) := by
  by_cases h : c.length ≠ l.length ∨ b.length ≠ l.length
  · exact ⟨l, of_short l c b h (by omega), rfl, fun _ => rfl⟩
  · exact ⟨_, of_F l c b (by omega) (by omega) (by omega), by rw [relev, tab_len], fun h' => absurd h' h⟩

theorem relevelOf_F (ls ns bs : List Int) (h1 : ls.length ≤ 2097152) (h2 : ns.length ≤ 2097152) (h3 : bs.length ≤ 2097152) (w1 : ∀ n ∈ ls, 0 ≤ n ∧ n ≤ 255) (w2 : ∀ n ∈ ns, 0 ≤ n ∧ n ≤ 255) (w3 : ∀ n ∈ bs, 0 ≤ n ∧ n ≤ 255) : law24_RelevelOf_F ls ns bs = some true := by
  unfold law24_RelevelOf_F law24_RelevelOf_T
  refine Post.run ?_
  have hL := levels_F ls h1 w1
  generalize hl : (tab ls.length fun i => lev (ls.getD i 0)) = l at hL
  generalize hc : (tab ns.length fun i => (ns.getD i 0) % 23) = c
  generalize hb : (tab bs.length fun i => (bs.getD i 0) % 2) = b
  have n1 : l.length ≤ 2097152 := by rw [← hl, tab_len]; exact h1
  have n2 : c.length ≤ 2097152 := by rw [← hc, tab_len]; exact h2
  have n3 : b.length ≤ 2097152 := by rw [← hb, tab_len]; exact h3
  obtain ⟨o, ho, hol, hos⟩ := of_any l c b n1
  refine Post.bnd awake_F (Post.brF rfl (Post.bnd hL (Post.bnd (by rw [classes_F ns h2 w2, hc]) (Post.bnd (by rw [bases_F bs h3 w3, hb]) (Post.bnd ho (Post.brF (by simp [hol]) ?_))))))
  obtain ⟨n, hn, hnl, hnc, hnb, hmin⟩ : ∃ n : Nat, (if (b.length : Int) < (if (c.length : Int) < (l.length : Int) then (c.length : Int) else (l.length : Int)) then (b.length : Int) else (if (c.length : Int) < (l.length : Int) then (c.length : Int) else (l.length : Int))) = (n : Int) ∧ n ≤ l.length ∧ n ≤ c.length ∧ n ≤ b.length ∧ (n = l.length ∨ n = c.length ∨ n = b.length) := by
    refine ⟨min b.length (min c.length l.length), ?_, by omega, by omega, by omega, by omega⟩
    split <;> split <;> omega
  rw [hn]
  have hfirst : o = l → loopW (fun s => (law24_RelevelOf_L10 s.1 s.2.1 s.2.2.1 s.2.2.2.1 s.2.2.2.2.1 s.2.2.2.2.2.1 s.2.2.2.2.2.2.1 s.2.2.2.2.2.2.2).run) (ls, l, c, b, o, (n : Int), (o.length : Int), 0) = some (.inl (ls, l, c, b, (n : Int))) := by
    rintro rfl
    refine count (L := fun s : List Int × List Int × List Int × List Int × List Int × Int × Int × Int => law24_RelevelOf_L10 s.1 s.2.1 s.2.2.1 s.2.2.2.1 s.2.2.2.2.1 s.2.2.2.2.2.1 s.2.2.2.2.2.2.1 s.2.2.2.2.2.2.2) o.length (fun k => (ls, o, c, b, o, (n : Int), (o.length : Int), (k : Int))) rfl (fun k hk => ?_) ?_
    · dsimp only
      unfold law24_RelevelOf_L10
      refine Post.brT (by simpa using hk) (Post.idx 0 k rfl hk (Post.idx 0 k rfl hk (Post.brF (by simp) (Post.pure ?_))))
      rw [wrap64 (by omega) (by omega)]; rfl
    · dsimp only
      unfold law24_RelevelOf_L10
      exact Post.brF (by simp) (Post.pure rfl)
  have hof := of_F (l.take n) (c.take n) (b.take n) (by rw [List.length_take, List.length_take]; omega) (by rw [List.length_take, List.length_take]; omega) (by rw [List.length_take]; omega)
  have htl : (l.take n).length = n := by rw [List.length_take]; omega
  have hct : (c.take n).length = n := by rw [List.length_take]; omega
  have hrl : (relev (l.take n) (c.take n) (b.take n)).length = n := by rw [relev, tab_len, htl]
  have hlast : loopW (fun s => (law24_RelevelOf_L18 s.1 s.2.1 s.2.2.1 s.2.2.2.1 s.2.2.2.2.1 s.2.2.2.2.2.1 s.2.2.2.2.2.2).run) (l, c, b, (n : Int), relev (l.take n) (c.take n) (b.take n), l, 0) = some (.inl ()) := by
    refine count (L := fun s : List Int × List Int × List Int × Int × List Int × List Int × Int => law24_RelevelOf_L18 s.1 s.2.1 s.2.2.1 s.2.2.2.1 s.2.2.2.2.1 s.2.2.2.2.2.1 s.2.2.2.2.2.2) n (fun k => (l, c, b, (n : Int), relev (l.take n) (c.take n) (b.take n), l, (k : Int))) rfl (fun k hk => ?_) ?_
    · dsimp only
      unfold law24_RelevelOf_L18
      have hr : (relev (l.take n) (c.take n) (b.take n)).getD k 0 = if l.getD k 0 ≠ -1 ∧ backL ((c.take n).drop k) = true then b.getD k 0 else l.getD k 0 := by
        rw [relev, htl, tab_getD _ _ hk, take_getD 0 hk, take_getD 0 hk]
      have hadd : IntKind.i64.wrap ((k : Int) + 1) = ((k + 1 : Nat) : Int) := by rw [wrap64 (by omega) (by omega)]; omega
      rw [hadd]
      refine Post.brT (by simpa using hk) (Post.idx 0 k rfl (by omega) (Post.br (fun h => ?_) (fun h => ?_)))
      · have h : l.getD k 0 ≠ -1 := by simpa using h
        refine Post.bnd (cut_take rfl hnc) (Post.bnd (back_F _ k (by omega) (by omega)) (Post.br (fun h' => ?_) (fun h' => ?_)))
        · rw [if_pos ⟨h, h'⟩] at hr
          exact Post.idx 0 k rfl (by omega) (Post.brF (by simp [hrl]) (Post.idx 0 k rfl (by omega) (Post.brF (by rw [hr]; simp) (Post.idx 0 k rfl (by omega) (Post.idx 0 k rfl (by omega) (Post.brF (by simp) (Post.pure rfl)))))))
        · rw [if_neg (fun h2 => by rw [h2.2] at h'; cases h')] at hr
          exact Post.brF (by simp [hrl]) (Post.idx 0 k rfl (by omega) (Post.brF (by rw [hr]; simp) (Post.idx 0 k rfl (by omega) (Post.idx 0 k rfl (by omega) (Post.brF (by simp) (Post.pure rfl))))))
      · have h : l.getD k 0 = -1 := by simpa using h
        rw [if_neg (fun h2 => h2.1 h)] at hr
        exact Post.brF (by simp [hrl]) (Post.idx 0 k rfl (by omega) (Post.brF (by rw [hr]; simp) (Post.idx 0 k rfl (by omega) (Post.idx 0 k rfl (by omega) (Post.brF (by simp) (Post.pure rfl))))))
    · dsimp only
      unfold law24_RelevelOf_L18
      exact Post.brF (by simp) (Post.pure rfl)
  have hof' := hof
  refine Post.br (fun g1 => Post.altL (hfirst (hos (by simp at g1; omega))) ?_) (fun g1 => Post.br (fun g2 => Post.altL (hfirst (hos (by simp at g1 g2; omega))) ?_) (fun g2 => Post.br (fun g3 => Post.altL (hfirst (hos (by simp at g1 g2 g3; omega))) ?_) (fun g3 => ?_)))
  all_goals exact Post.bnd (cut_take rfl hnl) (Post.bnd (cut_take rfl hnc) (Post.bnd (cut_take rfl hnb) (Post.bnd hof (Post.bnd hL (Post.altL hlast (Post.pure rfl))))))

/-- what has been brought back stays so -/
theorem relev_again (l c b : List Int) (hb : b.length = l.length) (w : ∀ k, k < l.length → b.getD k 0 ≠ -1) : relev (relev l c b) c b = relev l c b := by
  have hl : (relev l c b).length = l.length := by rw [relev, tab_len]
  have hg : ∀ k, k < l.length → (relev l c b).getD k 0 = if l.getD k 0 ≠ -1 ∧ backL (c.drop k) = true then b.getD k 0 else l.getD k 0 := fun k hk => by rw [relev, tab_getD _ _ hk]
  have e : relev (relev l c b) c b = tab l.length fun k => if (relev l c b).getD k 0 ≠ -1 ∧ backL (c.drop k) = true then b.getD k 0 else (relev l c b).getD k 0 := by
    conv => lhs; rw [relev]
    rw [hl]
  rw [e]
  refine (tab_ext 0 hl fun k hk => ?_).symm
  rw [hg k hk]
  by_cases h1 : l.getD k 0 ≠ -1 ∧ backL (c.drop k) = true
  · simp only [if_pos h1]
    split <;> rfl
  · simp only [if_neg h1]

theorem relevelTwice_F (ls ns bs : List Int) (h1 : ls.length ≤ 2097152) (h2 : ns.length ≤ 2097152) (h3 : bs.length ≤ 2097152) (w1 : ∀ n ∈ ls, 0 ≤ n ∧ n ≤ 255) (w2 : ∀ n ∈ ns, 0 ≤ n ∧ n ≤ 255) (w3 : ∀ n ∈ bs, 0 ≤ n ∧ n ≤ 255) : law24_RelevelTwice_F ls ns bs = some true := by
  unfold law24_RelevelTwice_F law24_RelevelTwice_T
  refine Post.run ?_
  have hL := levels_F ls h1 w1
  generalize hl : (tab ls.length fun i => lev (ls.getD i 0)) = l at hL
  generalize hc : (tab ns.length fun i => (ns.getD i 0) % 23) = c
  generalize hb : (tab bs.length fun i => (bs.getD i 0) % 2) = b
  have n1 : l.length ≤ 2097152 := by rw [← hl, tab_len]; exact h1
  have n2 : c.length ≤ 2097152 := by rw [← hc, tab_len]; exact h2
  have n3 : b.length ≤ 2097152 := by rw [← hb, tab_len]; exact h3
  have hbw : ∀ k, k < b.length → b.getD k 0 ≠ -1 := by
    intro k hk
    have hk' : k < bs.length := by rw [← hb, tab_len] at hk; exact hk
    rw [← hb, tab_getD _ _ hk']
    omega
  refine Post.bnd awake_F (Post.brF rfl (Post.bnd hL (Post.bnd (by rw [classes_F ns h2 w2, hc]) (Post.bnd (by rw [bases_F bs h3 w3, hb]) ?_))))
  obtain ⟨n, hn, hnl, hnc, hnb⟩ : ∃ n : Nat, (if (b.length : Int) < (if (c.length : Int) < (l.length : Int) then (c.length : Int) else (l.length : Int)) then (b.length : Int) else (if (c.length : Int) < (l.length : Int) then (c.length : Int) else (l.length : Int))) = (n : Int) ∧ n ≤ l.length ∧ n ≤ c.length ∧ n ≤ b.length := by
    refine ⟨min b.length (min c.length l.length), ?_, by omega, by omega, by omega⟩
    split <;> split <;> omega
  rw [hn]
  have htl : (l.take n).length = n := by rw [List.length_take]; omega
  have hct : (c.take n).length = n := by rw [List.length_take]; omega
  have hbt : (b.take n).length = n := by rw [List.length_take]; omega
  have hof := of_F (l.take n) (c.take n) (b.take n) (by rw [htl, hct]) (by rw [htl, hbt]) (by rw [htl]; omega)
  have hrl : (relev (l.take n) (c.take n) (b.take n)).length = n := by rw [relev, tab_len, htl]
  have hof2 := of_F (relev (l.take n) (c.take n) (b.take n)) (c.take n) (b.take n) (by rw [hrl, hct]) (by rw [hrl, hbt]) (by rw [hrl]; omega)
  rw [relev_again _ _ _ (by rw [htl, hbt]) (fun k hk => by rw [htl] at hk; rw [take_getD 0 hk]; exact hbw k (by omega))] at hof2
  have hmk : mk 140737488355328 (0 : Int) (n : Int) = some (List.replicate n 0) := mk_eq rfl (by omega)
  have hof3 := of_F (l.take n) (List.replicate n 0) (b.take n) (by rw [htl]; simp) (by rw [htl, hbt]) (by rw [htl]; omega)
  have hplain : relev (l.take n) (List.replicate n 0) (b.take n) = l.take n := by
    refine (tab_ext 0 rfl fun k hk => ?_).symm
    rw [htl] at hk
    have : backL ((List.replicate n (0 : Int)).drop k) = false := by
      rw [drop_cons (by simpa using hk)]
      have : (List.replicate n (0 : Int)).getD k 0 = 0 := by simp [List.getD, hk]
      rw [this]; rfl
    rw [this, if_neg (by simp)]
  rw [hplain] at hof3
  refine Post.bnd (cut_take rfl hnl) (Post.bnd (cut_take rfl hnc) (Post.bnd (cut_take rfl hnb) (Post.bnd hof (Post.bnd (cut_take rfl hnc) (Post.bnd (cut_take rfl hnb) (Post.bnd hof2 (Post.bnd hmk (Post.bnd (cut_take rfl hnl) (Post.bnd (cut_take rfl hnb) (Post.bnd hof3 (Post.altL (b := ()) ?_ (Post.pure rfl))))))))))))
  refine count (L := fun s : List Int × Int × List Int × List Int × List Int × Int => law24_RelevelTwice_L10 s.1 s.2.1 s.2.2.1 s.2.2.2.1 s.2.2.2.2.1 s.2.2.2.2.2) n (fun k => (l, (n : Int), relev (l.take n) (c.take n) (b.take n), relev (l.take n) (c.take n) (b.take n), l.take n, (k : Int))) rfl (fun k hk => ?_) ?_
  · dsimp only
    unfold law24_RelevelTwice_L10
    refine Post.brT (by simpa using hk) (Post.brF (by simp [hrl]) (Post.brF (by simp [hrl]) (Post.brF (by simp; omega) (Post.idx 0 k rfl (by omega) (Post.idx 0 k rfl (by omega) (Post.brF (by simp) (Post.idx 0 k rfl (by omega) (Post.idx 0 k rfl (by omega) (Post.brF (by rw [take_getD 0 hk]; simp) (Post.pure ?_))))))))))
    rw [wrap64 (by omega) (by omega)]; rfl
  · dsimp only
    unfold law24_RelevelTwice_L10
    exact Post.brF (by simp) (Post.pure rfl)

end Go.Proofs.Ytfojigpbnepdhaa
