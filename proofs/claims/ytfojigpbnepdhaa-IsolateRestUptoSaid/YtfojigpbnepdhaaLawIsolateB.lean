/-
  The laws of isolate return true: matching by counting.
-/
import Derived.Test.YtfojigpbnepdhaaLawIsolate
namespace Go.Proofs.Ytfojigpbnepdhaa

def dlt (c : Int) : Int := (if iso c = true then 1 else 0) - (if c = 22 then 1 else 0)
/-- how many beginnings more than ends stand from a place on, up to another one -/
def cnt (cs : List Int) (i : Nat) : Nat → Int
  | 0 => 0
  | k + 1 => if k < i then 0 else cnt cs i k + dlt (cs.getD k 0)
theorem cnt_succ (cs : List Int) (i k : Nat) : cnt cs i (k + 1) = if k < i then 0 else cnt cs i k + dlt (cs.getD k 0) := rfl
theorem cnt_self (cs : List Int) (i : Nat) : cnt cs i i = 0 := by
  cases i with
  | zero => rfl
  | succ i => rw [cnt_succ, if_pos (by omega)]
theorem cnt_le (cs : List Int) (i : Nat) : ∀ k : Nat, -(k : Int) ≤ cnt cs i k ∧ cnt cs i k ≤ k
  | 0 => ⟨Int.le_refl _, Int.le_refl _⟩
  | k + 1 => by
    have := cnt_le cs i k
    rw [cnt_succ]
    split
    · omega
    · unfold dlt
      split <;> split <;> omega
/-- counts add up -/
theorem cnt_add (cs : List Int) {i k : Nat} (hik : i ≤ k) : ∀ j, k ≤ j → cnt cs i j = cnt cs i k + cnt cs k j
  | 0, h => by
    have : k = 0 := by omega
    subst this
    simp [cnt]
  | j + 1, h => by
    by_cases e : k = j + 1
    · subst e; rw [cnt_self]; omega
    · have ih := cnt_add cs hik j (by omega)
      rw [cnt_succ, cnt_succ, if_neg (by omega), if_neg (by omega), ih]; omega

theorem iso22 : iso 22 = false := rfl
theorem dlt_iso {c : Int} (h : iso c = true) : dlt c = 1 := by
  unfold dlt
  rw [if_pos h, if_neg (by rintro rfl; cases h)]; rfl
theorem dlt_22 : dlt 22 = -1 := rfl
theorem dlt_other {c : Int} (h : ¬ iso c = true) (h2 : ¬ c = 22) : dlt c = 0 := by
  unfold dlt
  rw [if_neg h, if_neg h2]; rfl

/-- a beginning is open, at a depth -/
def Opened (cs : List Int) (K i : Nat) : Prop := ∃ d : Nat, (stk cs K)[d]? = some i ∧ cnt cs i K = d + 1 ∧ mt cs K i = -1 ∧ ∀ j, i < j → j ≤ K → 0 < cnt cs i j
/-- two places belong to one another -/
def Pair (cs : List Int) (K i p : Nat) : Prop := i < p ∧ p < K ∧ iso (cs.getD i 0) = true ∧ cs.getD p 0 = 22 ∧ mt cs K i = p ∧ mt cs K p = i ∧ cnt cs i (p + 1) = 0 ∧ ∀ j, i < j → j ≤ p → 0 < cnt cs i j

structure Known (cs : List Int) (K : Nat) : Prop where
  beg : ∀ i, i < K → iso (cs.getD i 0) = true → Opened cs K i ∨ ∃ p, Pair cs K i p
  rest : ∀ q, q < K → ¬ iso (cs.getD q 0) = true → mt cs K q = -1 ∨ ∃ i, Pair cs K i q
  mem : ∀ t ∈ stk cs K, t < K ∧ iso (cs.getD t 0) = true ∧ mt cs K t = -1
  down : (stk cs K).Pairwise (· > ·)

theorem known (cs : List Int) : ∀ K, Known cs K
  | 0 => ⟨fun i h => by omega, fun q h => by omega, (fun t h => by cases h), List.Pairwise.nil⟩
  | K + 1 => by
    obtain ⟨h1, h2, h3, h4⟩ := known cs K
    by_cases hi : iso (cs.getD K 0) = true
    · have hs : stk cs (K + 1) = K :: stk cs K := by rw [stk_succ, if_pos hi]
      have hm : ∀ i, mt cs (K + 1) i = mt cs K i := fun i => by rw [mt_succ, if_pos hi]
      have hd := dlt_iso hi
      have hpair : ∀ {i p}, Pair cs K i p → Pair cs (K + 1) i p := fun {i p} ⟨a, b, c, d, e, f, g⟩ => ⟨a, by omega, c, d, by rw [hm]; exact e, by rw [hm]; exact f, g⟩
      refine ⟨fun i hiK hii => ?_, fun q hq hqi => ?_, fun t ht => ?_, ?_⟩
      · by_cases e : i = K
        · subst e
          refine .inl ⟨0, by rw [hs]; rfl, ?_, by rw [hm]; exact mt_ge cs i i (Nat.le_refl _), fun j j1 j2 => ?_⟩
          · rw [cnt_succ, if_neg (by omega), cnt_self, hd]; rfl
          · have : j = i + 1 := by omega
            subst this
            rw [cnt_succ, if_neg (by omega), cnt_self, hd]; omega
        · rcases h1 i (by omega) hii with ⟨d, d1, d2, d3, d4⟩ | ⟨p, hp⟩
          · have hc : cnt cs i (K + 1) = d + 2 := by rw [cnt_succ, if_neg (by omega), d2, hd]; omega
            refine .inl ⟨d + 1, by rw [hs]; exact d1, by rw [hc]; omega, by rw [hm]; exact d3, fun j j1 j2 => ?_⟩
            by_cases e2 : j = K + 1
            · subst e2; rw [hc]; omega
            · exact d4 j j1 (by omega)
          · exact .inr ⟨p, hpair hp⟩
      · have : q ≠ K := fun e => hqi (by rw [e]; exact hi)
        rcases h2 q (by omega) hqi with h | ⟨i, h⟩
        · exact .inl (by rw [hm]; exact h)
        · exact .inr ⟨i, hpair h⟩
      · rw [hs] at ht
        rcases List.mem_cons.1 ht with rfl | ht
        · exact ⟨by omega, hi, by rw [hm]; exact mt_ge cs t t (Nat.le_refl _)⟩
        · obtain ⟨a, b, c⟩ := h3 t ht
          exact ⟨by omega, b, by rw [hm]; exact c⟩
      · rw [hs]
        exact List.pairwise_cons.2 ⟨fun t ht => (h3 t ht).1, h4⟩
    · by_cases h22 : cs.getD K 0 = 22
      · cases hst : stk cs K with
        | nil =>
          have hs : stk cs (K + 1) = [] := by rw [stk_succ, if_neg hi, if_pos h22, hst]; rfl
          have hm : ∀ i, mt cs (K + 1) i = mt cs K i := fun i => by rw [mt_succ, if_neg hi, if_pos h22, hst]
          have hpair : ∀ {i p}, Pair cs K i p → Pair cs (K + 1) i p := fun {i p} ⟨a, b, c, d, e, f, g⟩ => ⟨a, by omega, c, d, by rw [hm]; exact e, by rw [hm]; exact f, g⟩
          refine ⟨fun i hiK hii => ?_, fun q hq hqi => ?_, fun t ht => (by rw [hs] at ht; cases ht), by rw [hs]; exact List.Pairwise.nil⟩
          · have : i ≠ K := fun e => hi (by rw [← e]; exact hii)
            rcases h1 i (by omega) hii with ⟨d, d1, _⟩ | ⟨p, hp⟩
            · rw [hst] at d1; cases d1
            · exact .inr ⟨p, hpair hp⟩
          · by_cases e : q = K
            · subst e; exact .inl (by rw [hm]; exact mt_ge cs q q (Nat.le_refl _))
            · rcases h2 q (by omega) hqi with h | ⟨i, h⟩
              · exact .inl (by rw [hm]; exact h)
              · exact .inr ⟨i, hpair h⟩
        | cons t s =>
          have hs : stk cs (K + 1) = s := by rw [stk_succ, if_neg hi, if_pos h22, hst]; rfl
          have hm : ∀ i, mt cs (K + 1) i = if i = t then (K : Int) else if i = K then (t : Int) else mt cs K i := fun i => by rw [mt_succ, if_neg hi, if_pos h22, hst]
          obtain ⟨t1, t2, t3⟩ := h3 t (by rw [hst]; simp)
          rw [hst] at h4
          have hdn := List.pairwise_cons.1 h4
          have hpair : ∀ {i p}, Pair cs K i p → Pair cs (K + 1) i p := by
            rintro i p ⟨a, b, c, d, e, f, g⟩
            have hit : i ≠ t := fun h => by rw [h, t3] at e; omega
            have hpt : p ≠ t := fun h => by rw [h] at d; rw [d] at t2; cases t2
            exact ⟨a, by omega, c, d, by rw [hm, if_neg hit, if_neg (by omega)]; exact e, by rw [hm, if_neg hpt, if_neg (by omega)]; exact f, g⟩
          have htop : Opened cs K t := by
            rcases h1 t t1 t2 with h | ⟨p, hp⟩
            · exact h
            · have := hp.2.2.2.2.1; rw [t3] at this; omega
          have hnew : Pair cs (K + 1) t K := by
            obtain ⟨d, d1, d2, _, d4⟩ := htop
            have hd0 : d = 0 := by
              cases d with
              | zero => rfl
              | succ d =>
                rw [hst] at d1
                have := hdn.1 t (List.mem_of_getElem? d1)
                omega
            subst hd0
            refine ⟨t1, by omega, t2, h22, by rw [hm, if_pos rfl], by rw [hm, if_neg (by omega), if_pos rfl], ?_, fun j j1 j2 => d4 j j1 j2⟩
            rw [cnt_succ, if_neg (by omega), d2, h22, dlt_22]; rfl
          refine ⟨fun i hiK hii => ?_, fun q hq hqi => ?_, fun u hu => ?_, by rw [hs]; exact hdn.2⟩
          · have hne : i ≠ K := fun e => hi (by rw [← e]; exact hii)
            by_cases e : i = t
            · subst e; exact .inr ⟨K, hnew⟩
            · rcases h1 i (by omega) hii with ⟨d, d1, d2, d3, d4⟩ | ⟨p, hp⟩
              · rw [hst] at d1
                cases d with
                | zero => cases d1; exact absurd rfl e
                | succ d =>
                  have hc : cnt cs i (K + 1) = d + 1 := by rw [cnt_succ, if_neg (by omega), d2, h22, dlt_22]; omega
                  refine .inl ⟨d, by rw [hs]; exact d1, hc, by rw [hm, if_neg e, if_neg hne]; exact d3, fun j j1 j2 => ?_⟩
                  by_cases e2 : j = K + 1
                  · subst e2; rw [hc]; omega
                  · exact d4 j j1 (by omega)
              · exact .inr ⟨p, hpair hp⟩
          · by_cases e : q = K
            · subst e; exact .inr ⟨t, hnew⟩
            · rcases h2 q (by omega) hqi with h | ⟨i, h⟩
              · have : q ≠ t := fun e => hqi (by rw [e]; exact t2)
                exact .inl (by rw [hm, if_neg this, if_neg e]; exact h)
              · exact .inr ⟨i, hpair h⟩
          · rw [hs] at hu
            obtain ⟨a, b, c⟩ := h3 u (by rw [hst]; simp [hu])
            have := hdn.1 u hu
            exact ⟨by omega, b, by rw [hm, if_neg (by omega), if_neg (by omega)]; exact c⟩
      · have hs : stk cs (K + 1) = stk cs K := by rw [stk_succ, if_neg hi, if_neg h22]
        have hm : ∀ i, mt cs (K + 1) i = mt cs K i := fun i => by rw [mt_succ, if_neg hi, if_neg h22]
        have hd := dlt_other hi h22
        have hpair : ∀ {i p}, Pair cs K i p → Pair cs (K + 1) i p := fun {i p} ⟨a, b, c, d, e, f, g⟩ => ⟨a, by omega, c, d, by rw [hm]; exact e, by rw [hm]; exact f, g⟩
        refine ⟨fun i hiK hii => ?_, fun q hq hqi => ?_, fun t ht => ?_, by rw [hs]; exact h4⟩
        · have hne : i ≠ K := fun e => hi (by rw [← e]; exact hii)
          rcases h1 i (by omega) hii with ⟨d, d1, d2, d3, d4⟩ | ⟨p, hp⟩
          · have hc : cnt cs i (K + 1) = d + 1 := by rw [cnt_succ, if_neg (by omega), d2, hd]; omega
            refine .inl ⟨d, by rw [hs]; exact d1, hc, by rw [hm]; exact d3, fun j j1 j2 => ?_⟩
            by_cases e2 : j = K + 1
            · subst e2; rw [hc]; omega
            · exact d4 j j1 (by omega)
          · exact .inr ⟨p, hpair hp⟩
        · by_cases e : q = K
          · subst e; exact .inl (by rw [hm]; exact mt_ge cs q q (Nat.le_refl _))
          · rcases h2 q (by omega) hqi with h | ⟨i, h⟩
            · exact .inl (by rw [hm]; exact h)
            · exact .inr ⟨i, hpair h⟩
        · rw [hs] at ht
          obtain ⟨a, b, c⟩ := h3 t ht
          exact ⟨by omega, b, by rw [hm]; exact c⟩

/-! ### by counting -/
theorem closes_F (cs : List Int) (a : Nat) (ha : a < cs.length) (hi : iso (cs.getD a 0) = true) (hn : cs.length ≤ 2097152) : law09_closes_F cs (a : Int) = some (mt cs cs.length a) := by
  obtain ⟨p, hp, hres⟩ : ∃ p : Nat, (∀ j, a < j → j ≤ p → 0 < cnt cs a j) ∧ ((p = cs.length ∧ mt cs cs.length a = -1) ∨ (p < cs.length ∧ a < p ∧ mt cs cs.length a = p ∧ cnt cs a (p + 1) = 0)) := by
    rcases (known cs cs.length).beg a ha hi with ⟨d, _, _, d3, d4⟩ | ⟨p, q1, q2, _, _, q5, _, q7, q8⟩
    · exact ⟨cs.length, d4, .inl ⟨rfl, d3⟩⟩
    · exact ⟨p, q8, .inr ⟨q2, q1, q5, q7⟩⟩
  have hpl : p ≤ cs.length := by rcases hres with h | h <;> omega
  have hap : a < p := by rcases hres with h | h <;> omega
  unfold law09_closes_F law09_closes_T
  refine Post.run (Post.alt (R := fun r => (r = .inl () ∧ mt cs cs.length a = -1) ∨ r = .inr (mt cs cs.length a)) (loop_ex (L := fun s : List Int × Int × Int => law09_closes_L3 s.1 s.2.1 s.2.2)
    (fun s => ∃ k : Nat, s = (cs, cnt cs a k, (k : Int)) ∧ a ≤ k ∧ k ≤ p) (fun s => cs.length - s.2.2.toNat) ?_ ⟨a, by rw [cnt_self], Nat.le_refl _, by omega⟩) (fun b hb => ?_) (fun b hb => ?_))
  · rintro s ⟨k, rfl, hak, hkp⟩
    dsimp only
    unfold law09_closes_L3
    refine Post.br (fun h => ?_) (fun h => Post.pure ?_)
    · have hk : k < cs.length := by simpa using h
      have hcl := cnt_le cs a k
      have hk1 : IntKind.i64.wrap ((k : Int) + 1) = ((k + 1 : Nat) : Int) := by rw [wrap64 (by omega) (by omega)]; omega
      have hstep : cnt cs a (k + 1) = cnt cs a k + dlt (cs.getD k 0) := by rw [cnt_succ, if_neg (by omega)]
      rw [hk1, wrap64 (n := cnt cs a k + 1) (by omega) (by omega), wrap64 (n := cnt cs a k - 1) (by omega) (by omega)]
      -- what is done with a count
      have fin : ∀ v : Int, v = cnt cs a (k + 1) → Post (Tr.br (v == 0) (Tr.pure (Lap.done (Sum.inr (k : Int)))) (Tr.pure (Lap.next (cs, v, ((k + 1 : Nat) : Int)))) : Tr (Lap (List Int × Int × Int) (Sum Unit Int)))
          (fun l => match l with | .next s' => (∃ k : Nat, s' = (cs, cnt cs a k, (k : Int)) ∧ a ≤ k ∧ k ≤ p) ∧ cs.length - s'.2.2.toNat < cs.length - ((k : Int)).toNat | .done r => (r = .inl () ∧ mt cs cs.length a = -1) ∨ r = .inr (mt cs cs.length a)) := by
        intro v hv
        refine Post.br (fun h0 => Post.pure (.inr ?_)) (fun h0 => Post.pure ⟨⟨k + 1, by rw [hv], by omega, ?_⟩, by dsimp only; omega⟩)
        · have h0 : v = 0 := by simpa using h0
          rw [hv] at h0
          have hkp' : k = p := by
            rcases Nat.lt_or_ge k p with h | h
            · have := hp (k + 1) (by omega) (by omega); omega
            · omega
          rcases hres with ⟨h, _⟩ | ⟨_, _, h, _⟩
          · omega
          · rw [h, hkp']
        · have h0 : v ≠ 0 := by simpa using h0
          rw [hv] at h0
          rcases Nat.lt_or_ge k p with h | h
          · omega
          · have : k = p := by omega
            subst this
            rcases hres with ⟨h, _⟩ | ⟨_, _, _, h⟩
            · omega
            · exact absurd h h0
      refine Post.idx 0 k rfl hk (Post.bnd (isoF _) (Post.br (fun h1 => Post.idx 0 k rfl hk (Post.brF ?_ (Post.mono (fin (cnt cs a k + 1) ?_) (fun l hl => by cases l <;> exact hl)))) (fun h1 => Post.idx 0 k rfl hk (Post.br (fun h2 => (Post.mono (fin (cnt cs a k - 1) ?_) (fun l hl => by cases l <;> exact hl))) (fun h2 => (Post.mono (fin (cnt cs a k) ?_) (fun l hl => by cases l <;> exact hl)))))))
      · simp only [beq_eq_false_iff_ne, ne_eq]
        intro e; rw [e] at h1; cases h1
      · rw [hstep, dlt_iso h1]
      · have h2 : cs.getD k 0 = 22 := by simpa using h2
        rw [hstep, h2, dlt_22]; rfl
      · have h2 : ¬ cs.getD k 0 = 22 := by simpa using h2
        rw [hstep, dlt_other (by rw [h1]; simp) h2]; omega
    · have hk : ¬ k < cs.length := by simpa using h
      rcases hres with ⟨h, h2⟩ | ⟨h, _⟩
      · exact .inl ⟨rfl, h2⟩
      · omega
  · rcases hb with ⟨_, hb⟩ | hb
    · exact Post.pure hb.symm
    · cases hb
  · rcases hb with ⟨hb, _⟩ | hb
    · cases hb
    · cases hb; exact Post.pure rfl

/-- what is wanted of each place, behind so many beginnings -/
def G (cs : List Int) (K i : Nat) : Int := if iso (cs.getD i 0) = true then (if i < K then mt cs cs.length i else -1) else (if 0 ≤ mt cs cs.length i ∧ mt cs cs.length i < K then mt cs cs.length i else -1)

theorem mt_val (cs : List Int) (i : Nat) (hi : i < cs.length) : mt cs cs.length i = -1 ∨ ∃ p : Nat, mt cs cs.length i = p ∧ p < cs.length ∧ mt cs cs.length p = i ∧ (iso (cs.getD i 0) = true ↔ ¬ iso (cs.getD p 0) = true) := by
  have hK := known cs cs.length
  by_cases h : iso (cs.getD i 0) = true
  · rcases hK.beg i hi h with ⟨_, _, _, d3, _⟩ | ⟨p, q1, q2, q3, q4, q5, q6, _⟩
    · exact .inl d3
    · refine .inr ⟨p, q5, q2, q6, ?_⟩
      rw [q4]
      exact ⟨fun _ => by rw [iso22]; simp, fun _ => h⟩
  · rcases hK.rest i hi h with d3 | ⟨p, q1, q2, q3, q4, q5, q6, _⟩
    · exact .inl d3
    · exact .inr ⟨p, q6, by omega, q5, ⟨fun h' => absurd h' h, fun h' => absurd q3 h'⟩⟩

theorem isolateMatches_F (ns : List Int) (h1 : ns.length ≤ 2097152) (w1 : ∀ n ∈ ns, 0 ≤ n ∧ n ≤ 255) : law09_IsolateMatches_F ns = some true := by
  unfold law09_IsolateMatches_F law09_IsolateMatches_T
  generalize hc : (tab ns.length fun i => (ns.getD i 0) % 23) = cs
  have hcl : cs.length ≤ 2097152 := by rw [← hc, tab_len]; exact h1
  generalize hm : (tab cs.length fun i => mt cs cs.length i) = m
  have hml : m.length = cs.length := by rw [← hm, tab_len]
  refine Post.run (Post.bnd awake09 (Post.brF rfl (Post.bnd (by rw [classes_F ns h1 w1, hc]) (Post.bnd (by rw [match_F cs (by omega), hm]) (Post.brF (by simp [hml]) (Post.bnd (mk_eq (k := cs.length) rfl (by omega)) ?_))))))
  refine Post.bnd (b := (cs, m, List.replicate cs.length (-1))) (count (L := fun s : List Int × List Int × List Int × Int => law09_IsolateMatches_L9 s.1 s.2.1 s.2.2.1 s.2.2.2) cs.length
    (fun k => (cs, m, tab cs.length (fun i => if i < k then -1 else 0), (k : Int))) ?_ (fun k hk => ?_) ?_) ?_
  · rw [tab_rep]; simp
  · dsimp only
    unfold law09_IsolateMatches_L9
    refine Post.brT (by simpa using hk) (Post.idx 0 k rfl (by rw [tab_len]; exact hk) (Post.pure ?_))
    rw [wrap64 (by omega) (by omega), Int.toNat_natCast, tab_set]
    have e : tab cs.length (fun i => if i = k then (-1 : Int) else if i < k then -1 else 0) = tab cs.length (fun i => if i < k + 1 then -1 else 0) := tab_congr fun p hp => by
      by_cases e : p = k
      · subst e; simp
      · by_cases h : p < k
        · rw [if_neg e, if_pos h, if_pos (by omega)]
        · rw [if_neg e, if_neg h, if_neg (by omega)]
    rw [e]; rfl
  · dsimp only
    unfold law09_IsolateMatches_L9
    refine Post.brF (by simp) (Post.pure ?_)
    have e : tab cs.length (fun i => if i < cs.length then (-1 : Int) else 0) = List.replicate cs.length (-1) := by
      rw [tab_rep]; exact tab_congr fun p hp => by rw [if_pos hp]
    rw [e]
  dsimp only
  refine Post.bnd (b := (cs, m, tab cs.length (G cs cs.length))) (count (L := fun s : List Int × List Int × List Int × Int => law09_IsolateMatches_L13 s.1 s.2.1 s.2.2.1 s.2.2.2) cs.length
    (fun k => (cs, m, tab cs.length (G cs k), (k : Int))) ?_ (fun k hk => ?_) ?_) ?_
  · have e : List.replicate cs.length (-1) = tab cs.length (G cs 0) := by
      rw [tab_rep]
      refine tab_congr fun p hp => ?_
      unfold G
      split
      · rw [if_neg (by omega)]
      · rw [if_neg (by omega)]
    rw [e]; rfl
  · dsimp only
    unfold law09_IsolateMatches_L13
    have hk1 : IntKind.i64.wrap ((k : Int) + 1) = ((k + 1 : Nat) : Int) := by rw [wrap64 (by omega) (by omega)]; omega
    rw [hk1]
    refine Post.brT (by simpa using hk) (Post.idx 0 k rfl hk (Post.bnd (isoF _) (Post.br (fun h => Post.pure ?_) (fun h => ?_))))
    · have h : ¬ iso (cs.getD k 0) = true := by simpa using h
      have e : tab cs.length (G cs k) = tab cs.length (G cs (k + 1)) := tab_congr fun p hp => by
        unfold G
        split
        · rename_i hp1
          have : p ≠ k := fun e => h (by rw [← e]; exact hp1)
          by_cases hpk : p < k
          · rw [if_pos hpk, if_pos (by omega)]
          · rw [if_neg hpk, if_neg (by omega)]
        · rename_i hp1
          rcases mt_val cs p hp with e | ⟨q, e, _, _, e4⟩
          · rw [e, if_neg (by omega), if_neg (by omega)]
          · have : q ≠ k := fun e' => by
              rw [e'] at e4
              exact hp1 (e4.2 h)
            rw [e]
            by_cases hq : q < k
            · rw [if_pos (by omega), if_pos (by omega)]
            · rw [if_neg (by omega), if_neg (by omega)]
      rw [e]
    · have h : iso (cs.getD k 0) = true := by simpa using h
      refine Post.bnd (closes_F cs k hk h hcl) ?_
      rcases mt_val cs k hk with e | ⟨q, e, e2, e3, e4⟩
      · rw [e]
        refine Post.brF rfl (Post.pure ?_)
        have e' : tab cs.length (G cs k) = tab cs.length (G cs (k + 1)) := tab_congr fun p hp => by
          unfold G
          split
          · by_cases hpk : p < k
            · rw [if_pos hpk, if_pos (by omega)]
            · rw [if_neg hpk]
              by_cases e5 : p = k
              · rw [if_pos (by omega), e5, e]
              · rw [if_neg (by omega)]
          · rename_i hp1
            rcases mt_val cs p hp with e6 | ⟨q, e6, _, e7, _⟩
            · rw [e6, if_neg (by omega), if_neg (by omega)]
            · have : q ≠ k := fun e' => by rw [e', e] at e7; omega
              rw [e6]
              by_cases hq : q < k
              · rw [if_pos (by omega), if_pos (by omega)]
              · rw [if_neg (by omega), if_neg (by omega)]
        rw [e']
      · rw [e]
        have hqi : ¬ iso (cs.getD q 0) = true := e4.1 h
        have hqk : q ≠ k := fun e => hqi (by rw [e]; exact h)
        refine Post.brT (by simp) (Post.idx 0 k rfl (by rw [tab_len]; exact hk) ?_)
        rw [Int.toNat_natCast, tab_set]
        refine Post.idx 0 q rfl (by rw [tab_len]; exact e2) (Post.pure ?_)
        rw [Int.toNat_natCast, tab_set]
        have e' : tab cs.length (fun i => if i = q then (k : Int) else if i = k then (q : Int) else G cs k i) = tab cs.length (G cs (k + 1)) := tab_congr fun p hp => by
          by_cases a1 : p = q
          · subst a1
            rw [if_pos rfl]
            unfold G
            rw [if_neg hqi, e3, if_pos (by omega)]
          · rw [if_neg a1]
            by_cases a2 : p = k
            · subst a2
              rw [if_pos rfl]
              unfold G
              rw [if_pos h, if_pos (by omega), e]
            · rw [if_neg a2]
              unfold G
              split
              · by_cases hpk : p < k
                · rw [if_pos hpk, if_pos (by omega)]
                · rw [if_neg hpk, if_neg (by omega)]
              · rcases mt_val cs p hp with e6 | ⟨r, e6, _, e7, _⟩
                · rw [e6, if_neg (by omega), if_neg (by omega)]
                · have : r ≠ k := fun e' => by rw [e', e] at e7; omega
                  rw [e6]
                  by_cases hq : r < k
                  · rw [if_pos (by omega), if_pos (by omega)]
                  · rw [if_neg (by omega), if_neg (by omega)]
        rw [e']
  · dsimp only
    unfold law09_IsolateMatches_L13
    exact Post.brF (by simp) (Post.pure rfl)
  dsimp only
  refine Post.altL (b := ()) (count (L := fun s : List Int × List Int × List Int × Int => law09_IsolateMatches_L20 s.1 s.2.1 s.2.2.1 s.2.2.2) cs.length
    (fun k => (cs, m, tab cs.length (G cs cs.length), (k : Int))) rfl (fun k hk => ?_) ?_) (Post.pure rfl)
  · dsimp only
    unfold law09_IsolateMatches_L20
    refine Post.brT (by simpa using hk) (Post.idx 0 k rfl (by rw [hml]; exact hk) (Post.idx 0 k rfl (by rw [tab_len]; exact hk) (Post.brF ?_ (Post.pure ?_))))
    · rw [← hm, tab_getD _ _ hk, tab_getD _ _ hk]
      have : G cs cs.length k = mt cs cs.length k := by
        unfold G
        by_cases hi : iso (cs.getD k 0) = true
        · rw [if_pos hi, if_pos hk]
        · rw [if_neg hi]
          rcases mt_val cs k hk with e | ⟨q, e, e2, _⟩
          · rw [e, if_neg (by omega)]
          · rw [e, if_pos (by omega)]
      rw [this]; simp
    · rw [wrap64 (by omega) (by omega)]; rfl
  · dsimp only
    unfold law09_IsolateMatches_L20
    exact Post.brF (by simp) (Post.pure rfl)

theorem isolateMatches_all (x : Tys.I [.sl (.int .u8)]) (h : WfAll [.sl (.int .u8)] x) (hb : bulkAll [.sl (.int .u8)] x ≤ 1048576) : law09_IsolateMatches_F x.1 = some true := by
  simp only [bulkAll, bulk] at hb
  exact isolateMatches_F _ (by omega) (fun n hn => wf_u8 (h.1.2 n hn))

/-! ### two do not cross -/
theorem between (cs : List Int) {k p i q : Nat} (hk : Pair cs cs.length k p) (h1 : k < i) (h2 : i < p) (hi : i < cs.length) (hq : mt cs cs.length i = q) : k ≤ q ∧ q ≤ p := by
  obtain ⟨a1, a2, a3, a4, a5, a6, a7, a8⟩ := hk
  have hK := known cs cs.length
  by_cases h : iso (cs.getD i 0) = true
  · rcases hK.beg i hi h with ⟨_, _, _, d3, _⟩ | ⟨q', b1, b2, b3, b4, b5, b6, b7, b8⟩
    · rw [d3] at hq; omega
    · have : q' = q := by rw [b5] at hq; omega
      subst this
      refine ⟨by omega, ?_⟩
      rcases Nat.lt_or_ge p q' with hc | hc
      · exfalso
        have e1 := b8 (p + 1) (by omega) (by omega)
        have e2 := cnt_add cs (i := k) (k := i) (by omega) (p + 1) (by omega)
        have e3 := a8 i h1 (by omega)
        omega
      · omega
  · rcases hK.rest i hi h with d3 | ⟨q', b1, b2, b3, b4, b5, b6, b7, b8⟩
    · rw [d3] at hq; omega
    · have : q' = q := by rw [b6] at hq; omega
      subst this
      refine ⟨?_, by omega⟩
      rcases Nat.lt_or_ge q' k with hc | hc
      · exfalso
        have e1 := b8 k hc (by omega)
        have e2 := cnt_add cs (i := q') (k := k) (by omega) (i + 1) (by omega)
        have e3 := a8 (i + 1) (by omega) (by omega)
        omega
      · omega

theorem isolateBoth_F (ns : List Int) (h1 : ns.length ≤ 2097152) (w1 : ∀ n ∈ ns, 0 ≤ n ∧ n ≤ 255) : law09_IsolateBoth_F ns = some true := by
  unfold law09_IsolateBoth_F law09_IsolateBoth_T
  generalize hc : (tab ns.length fun i => (ns.getD i 0) % 23) = cs
  have hcl : cs.length ≤ 2097152 := by rw [← hc, tab_len]; exact h1
  generalize hm : (tab cs.length fun i => mt cs cs.length i) = m
  have hml : m.length = cs.length := by rw [← hm, tab_len]
  have hg : ∀ k, k < cs.length → m.getD k 0 = mt cs cs.length k := fun k hk => by rw [← hm, tab_getD _ _ hk]
  refine Post.run (Post.bnd awake09 (Post.brF rfl (Post.bnd (by rw [classes_F ns h1 w1, hc]) (Post.bnd (by rw [match_F cs (by omega), hm]) (Post.altL (b := (cs, m)) (count (L := fun s : List Int × List Int × Int => law09_IsolateBoth_L6 s.1 s.2.1 s.2.2) cs.length
    (fun k => (cs, m, (k : Int))) rfl (fun k hk => ?_) ?_) (Post.pure (by simp [hml])))))))
  · dsimp only
    unfold law09_IsolateBoth_L6
    have hk1 : IntKind.i64.wrap ((k : Int) + 1) = ((k + 1 : Nat) : Int) := by rw [wrap64 (by omega) (by omega)]; omega
    have hkm : k < m.length := by omega
    rw [hk1]
    refine Post.brT (decide_eq_true (by omega)) (Post.idx 0 k rfl hkm ?_)
    rw [hg k hk]
    have hK := known cs cs.length
    -- the inner loop
    have inner : ∀ p : Nat, mt cs cs.length k = p → (Pair cs cs.length k p ∨ p < k) → loopW (fun s => (law09_IsolateBoth_L12 s.1 s.2.1 s.2.2.1 s.2.2.2).run) (cs, m, (k : Int), ((k + 1 : Nat) : Int)) = some (.inl (cs, m, (k : Int))) := by
      intro p hp hpair
      refine count (L := fun s : List Int × List Int × Int × Int => law09_IsolateBoth_L12 s.1 s.2.1 s.2.2.1 s.2.2.2) (p - (k + 1)) (fun j => (cs, m, (k : Int), ((k + 1 + j : Nat) : Int))) rfl (fun j hj => ?_) ?_
      · dsimp only
        have hP : Pair cs cs.length k p := hpair.resolve_right (by omega)
        have hpl := hP.2.1
        unfold law09_IsolateBoth_L12
        have hj1 : IntKind.i64.wrap (((k + 1 + j : Nat) : Int) + 1) = ((k + 1 + (j + 1) : Nat) : Int) := by rw [wrap64 (by omega) (by omega)]; omega
        rw [hj1]
        refine Post.idx 0 k rfl hkm ?_
        rw [hg k hk, hp]
        refine Post.brT (decide_eq_true (by omega)) (Post.idx 0 (k + 1 + j) rfl (by omega) ?_)
        rw [hg _ (by omega)]
        refine Post.br (fun h => ?_) (fun _ => Post.pure rfl)
        rcases mt_val cs (k + 1 + j) (by omega) with e | ⟨q, e, _⟩
        · rw [e] at h; cases h
        · have hb := between cs hP (by omega) (by omega) (by omega) e
          refine Post.idx 0 (k + 1 + j) rfl (by omega) ?_
          rw [hg _ (by omega), e]
          refine Post.brF (decide_eq_false (by omega)) (Post.idx 0 (k + 1 + j) rfl (by omega) ?_)
          rw [hg _ (by omega), e]
          refine Post.idx 0 k rfl hkm ?_
          rw [hg k hk, hp]
          exact Post.brF (decide_eq_false (by omega)) (Post.pure rfl)
      · dsimp only
        unfold law09_IsolateBoth_L12
        refine Post.idx 0 k rfl hkm ?_
        rw [hg k hk, hp]
        exact Post.brF (decide_eq_false (by omega)) (Post.pure rfl)
    by_cases hi : iso (cs.getD k 0) = true
    · rcases hK.beg k hk hi with ⟨_, _, _, d3, _⟩ | ⟨p, hP⟩
      · rw [d3]; exact Post.brT rfl (Post.pure rfl)
      · obtain ⟨b1, b2, b3, b4, b5, b6, _⟩ := id hP
        rw [b5]
        refine Post.brF (by simp) (Post.idx 0 k rfl hkm ?_)
        rw [hg k hk, b5]
        refine Post.idx 0 p rfl (by omega) ?_
        rw [hg p b2, b6]
        refine Post.brF (by simp) (Post.idx 0 k rfl hk (Post.idx 0 k rfl hkm ?_))
        rw [hg k hk, b5]
        refine Post.bnd (isoF _) (Post.brF (by rw [hi, decide_eq_true (show (p : Int) > (k : Int) by omega)]; rfl) (Post.idx 0 k rfl hk (Post.bnd (isoF _) (Post.brF (by rw [hi]; rfl) ?_))))
        refine Post.altL (inner p b5 (.inl hP)) (Post.pure ?_)
        dsimp only
        rw [hk1]
    · rcases hK.rest k hk hi with d3 | ⟨i, hP⟩
      · rw [d3]; exact Post.brT rfl (Post.pure rfl)
      · obtain ⟨b1, b2, b3, b4, b5, b6, _⟩ := id hP
        have hif : iso (cs.getD k 0) = false := by simpa using hi
        rw [b6]
        refine Post.brF (by simp) (Post.idx 0 k rfl hkm ?_)
        rw [hg k hk, b6]
        refine Post.idx 0 i rfl (by omega) ?_
        rw [hg i (by omega), b5]
        refine Post.brF (by simp) (Post.idx 0 k rfl hk (Post.idx 0 k rfl hkm ?_))
        rw [hg k hk, b6]
        refine Post.bnd (isoF _) (Post.brF (by rw [hif, decide_eq_false (show ¬ (i : Int) > (k : Int) by omega)]; rfl) (Post.idx 0 k rfl hk (Post.bnd (isoF _) (Post.brT (by rw [hif]; rfl) (Post.idx 0 k rfl hk (Post.brF (by rw [b4]; rfl) ?_))))))
        refine Post.altL (inner i b6 (.inr b1)) (Post.pure ?_)
        dsimp only
        rw [hk1]
  · dsimp only
    unfold law09_IsolateBoth_L6
    exact Post.brF (decide_eq_false (by omega)) (Post.pure rfl)

theorem isolateBoth_all (x : Tys.I [.sl (.int .u8)]) (h : WfAll [.sl (.int .u8)] x) (hb : bulkAll [.sl (.int .u8)] x ≤ 1048576) : law09_IsolateBoth_F x.1 = some true := by
  simp only [bulkAll, bulk] at hb
  exact isolateBoth_F _ (by omega) (fun n hn => wf_u8 (h.1.2 n hn))

end Go.Proofs.Ytfojigpbnepdhaa
