/-
  The laws of lines: the rest of a text alone; one line, where all is wide enough.
-/
import Derived.Test.YtafomgonecamlaaLawFillB
namespace Go.Proofs.Ytafomgonecamlaa
set_option linter.all false

theorem getD_drop (l : List Int) (e j : Nat) : (l.drop e).getD j 0 = l.getD (e + j) 0 := by
  simp [List.getD, List.getElem?_drop]
theorem pre_drop {ws : List Int} (hs : Small ws) (e : Nat) : ∀ k, e + k ≤ ws.length → pre (ws.drop e) k = pre ws (e + k) - pre ws e
  | 0, _ => by rw [pre_zero, Nat.add_zero]; omega
  | k + 1, h => by
    have hl := hs.1
    have hs' : Small (ws.drop e) := ⟨by rw [List.length_drop]; omega, fun j => by rw [getD_drop]; exact hs.2 _⟩
    rw [pre_next hs' (by rw [List.length_drop]; omega), pre_drop hs e k (by omega), getD_drop, show e + (k + 1) = (e + k) + 1 by omega, pre_next hs (by omega)]
    omega
theorem sol_drop (cs : List Int) (e : Nat) : ∀ k, sol (cs.drop e) k + e = sol cs (e + k) ∨ (sol (cs.drop e) k = 0 ∧ sol cs (e + k) ≤ e)
  | 0 => by have := sol_le cs e; right; exact ⟨rfl, by rw [Nat.add_zero]; omega⟩
  | k + 1 => by
    have ih := sol_drop cs e k
    rw [show e + (k + 1) = (e + k) + 1 by omega, sol_succ, sol_succ, getD_drop]
    split
    · left; omega
    · exact ih
theorem sho_drop {ws cs : List Int} {n e : Nat} (hs : Small ws) (hw : n ≤ ws.length) (he : e ≤ n) {a b : Nat} (h1 : a ≤ b) (h2 : b ≤ n - e) : sho (ws.drop e) (cs.drop e) (n - e) (a : Int) (b : Int) = sho ws cs n ((e + a : Nat) : Int) ((e + b : Nat) : Int) := by
  rw [sho_at h1 h2, sho_at (by omega) (by omega)]
  have s1 := sol_le (cs.drop e) b
  have s2 := sol_le cs (e + b)
  have s3 := sol_drop cs e b
  rw [pre_drop hs e _ (by omega), pre_drop hs e a (by omega)]
  have : e + max a (sol (cs.drop e) b).toNat = max (e + a) (sol cs (e + b)).toNat := by omega
  rw [this]
  omega
/-- what stands behind a place, alone -/
def Tx.from (t : Tx) (e : Nat) : Tx := ⟨t.ws.drop e, t.cs.drop e, t.n - e, t.ss.drop e, t.w⟩
theorem Tx.from_ok {t : Tx} (ht : t.Ok) {e : Nat} (he : e ≤ t.n) : (t.from e).Ok := by
  have h1 := ht.small
  have h2 := ht.nw
  have h3 := ht.nb
  have h4 := ht.len
  have h5 := h1.1
  refine ⟨⟨?_, fun k => ?_⟩, ?_, ?_, ?_, fun j => ?_⟩
  · show (t.ws.drop e).length ≤ _; rw [List.length_drop]; omega
  · show 0 ≤ (t.ws.drop e).getD k 0 ∧ (t.ws.drop e).getD k 0 ≤ 2; rw [getD_drop]; exact h1.2 _
  · show t.n - e ≤ (t.ws.drop e).length; rw [List.length_drop]; omega
  · show t.n - e ≤ _; omega
  · show (t.ss.drop e).length = t.n - e + 1; rw [List.length_drop]; omega
  · show 0 ≤ (t.ss.drop e).getD j 0 ∧ (t.ss.drop e).getD j 0 ≤ 2; rw [getD_drop]; exact ht.range _
theorem Tx.from_s (t : Tx) (e j : Nat) : (t.from e).s j = t.s (e + j) := getD_drop _ _ _
theorem Tx.from_W {t : Tx} {e : Nat} (he : e ≤ t.n) (j : Nat) : (t.from e).W j ↔ t.W (e + j) := by
  unfold Tx.W who
  show (((j : Int) == ((t.n - e : Nat) : Int)) || (decide (0 ≤ (j : Int) ∧ (j : Int) < ((t.n - e : Nat) : Int)) && (t.ws.drop e).getD (j : Int).toNat 0 != 0)) = true ↔ _
  rw [show (j : Int).toNat = j from rfl, show ((e + j : Nat) : Int).toNat = e + j from rfl, getD_drop]
  simp only [Bool.or_eq_true, Bool.and_eq_true, decide_eq_true_eq, beq_iff_eq]
  constructor
  · rintro (h | ⟨h1, h2⟩)
    · left; omega
    · right; exact ⟨by omega, h2⟩
  · rintro (h | ⟨h1, h2⟩)
    · left; omega
    · right; exact ⟨by omega, h2⟩
theorem Tx.from_F {t : Tx} (ht : t.Ok) {e : Nat} (he : e ≤ t.n) (a b : Nat) : (t.from e).F a b ↔ t.F (e + a) (e + b) := by
  unfold Tx.F
  show a < b ∧ b ≤ t.n - e ∧ sho (t.ws.drop e) (t.cs.drop e) (t.n - e) (a : Int) (b : Int) ≤ t.w ↔ _
  constructor
  · rintro ⟨h1, h2, h3⟩
    rw [sho_drop ht.small ht.nw he (by omega) h2] at h3
    exact ⟨by omega, by omega, h3⟩
  · rintro ⟨h1, h2, h3⟩
    rw [← sho_drop ht.small ht.nw he (by omega) (by omega)] at h3
    exact ⟨by omega, by omega, h3⟩
theorem Tx.from_end {t : Tx} (ht : t.Ok) {e : Nat} (he : e ≤ t.n) {a b : Nat} (h : (t.from e).End a b) : t.End (e + a) (e + b) := by
  have low : ∀ {p : Nat → Prop} {j : Nat}, e + a < j → (∀ k, j = e + k → a < k → p j) → p j := fun {p j} h1 h2 => h2 (j - e) (by omega) (by omega)
  have F := Tx.from_F ht he
  have W := Tx.from_W (t := t) he
  have S := Tx.from_s t e
  have all : ∀ {p q : Nat → Prop}, (∀ k, p k → q (e + k)) → (∀ k, (t.from e).F a k → p k) → ∀ j, t.F (e + a) j → q j := fun {p q} h1 h2 j hj => by
    have h3 := hj.1
    obtain ⟨k, rfl⟩ : ∃ k, j = e + k := ⟨j - e, by omega⟩
    exact h1 k (h2 k ((F a k).2 hj))
  rcases h with ⟨h1, h2, h3⟩ | ⟨h1, h2, h3, h4⟩ | ⟨h1, h2, h3, h4⟩ | ⟨h1, h2, h3, h4, h5⟩
  · refine .inl ⟨(F a b).1 h1, by rw [← S]; exact h2, fun j g1 g2 => ?_⟩
    obtain ⟨k, rfl⟩ : ∃ k, j = e + k := ⟨j - e, by omega⟩
    rw [← S]; exact h3 k (by omega) (by omega)
  · refine .inr (.inl ⟨all (fun k hk => by rw [← S]; exact hk) h1, (F a b).1 h2, by rw [← S]; exact h3, fun j g1 g2 => ?_⟩)
    obtain ⟨k, rfl⟩ : ∃ k, j = e + k := ⟨j - e, by omega⟩
    rw [← S]; exact h4 k (by omega) ((F a k).2 g2)
  · refine .inr (.inr (.inl ⟨all (fun k hk => by rw [← S]; exact hk) h1, (F a b).1 h2, (W b).1 h3, fun j g1 g2 => ?_⟩))
    obtain ⟨k, rfl⟩ : ∃ k, j = e + k := ⟨j - e, by omega⟩
    exact fun hw => h4 k (by omega) ((F a k).2 g2) ((W k).2 hw)
  · have h3 : b ≤ t.n - e := h3
    refine .inr (.inr (.inr ⟨all (fun k hk => by rw [← S]; exact ⟨hk.1, hk.2.1, fun hw => hk.2.2 ((W k).2 hw)⟩) h1, by omega, by omega, h4.imp (W b).1 (fun h => by rw [← S]; exact h), fun j g1 g2 => ?_⟩))
    obtain ⟨k, rfl⟩ : ∃ k, j = e + k := ⟨j - e, by omega⟩
    have := h5 k (by omega) (by omega)
    rw [← S]; exact ⟨fun hw => this.1 ((W k).2 hw), this.2⟩
def sft (e : Nat) (x : Ln) : Ln := (x.1 + e, x.2.1 + e, x.2.2)
theorem Tx.from_lines {t : Tx} (ht : t.Ok) {e : Nat} (he : e ≤ t.n) : ∀ {l : List Ln} {a : Nat}, (t.from e).Lines a l → t.Lines (e + a) (l.map (sft e))
  | [], a, h => by
    have h : a = t.n - e := h
    show e + a = t.n
    omega
  | x :: l, a, h => by
    obtain ⟨b, h1, rfl, h3⟩ := h
    refine ⟨e + b, Tx.from_end ht he h1, ?_, Tx.from_lines ht he h3⟩
    rw [← Tx.from_s]
    show ((a : Int) + (e : Int), (b : Int) + (e : Int), _) = _
    rw [show (a : Int) + (e : Int) = ((e + a : Nat) : Int) by omega, show (b : Int) + (e : Int) = ((e + b : Nat) : Int) by omega]

theorem Tx.Lines.bound {t : Tx} : ∀ {l : List Ln} {f : Nat}, t.Lines f l → ∀ x ∈ l, (0 ≤ x.1 ∧ x.1 ≤ t.n) ∧ 0 ≤ x.2.1 ∧ x.2.1 ≤ t.n
  | [], _, _, x, hx => by cases hx
  | y :: l, f, h, x, hx => by
    obtain ⟨e, h1, h2, h3⟩ := h
    have := h1.lt
    rcases List.mem_cons.1 hx with rfl | hx
    · rw [h2]
      dsimp only
      omega
    · exact h3.bound x hx
theorem cut_rest {l : List Int} {e : Nat} (h : e ≤ l.length) : cut l (e : Int) (l.length : Int) = some (l.drop e) := by
  have := cut_drop (xs := l) (lo := (e : Int)) (hi := (l.length : Int)) rfl rfl h (Nat.le_refl _)
  rw [List.take_length] at this
  exact this

theorem fillRest_F (wn ns ms : List Int) (w : Int) (h1 : wn.length ≤ 1048576) (h2 : ns.length ≤ 1048576) (h8 : ∀ n ∈ wn, 0 ≤ n ∧ n ≤ 255) (m8 : ∀ n ∈ ms, 0 ≤ n ∧ n ≤ 255) (w8 : 0 ≤ w ∧ w ≤ 255) : law23_FillRest_F wn ns ms w = some true := by
  unfold law23_FillRest_F law23_FillRest_T
  obtain ⟨ws, hws, hs, hwl⟩ := widths_F wn (by omega) h8
  obtain ⟨cs, hcs, hcl⟩ := classes_F ns (by omega)
  obtain ⟨n, hn, hnw, hnc, _⟩ := min_nat ws cs
  have hw1 := width_ok w8
  generalize IntKind.i64.wrap (1 + IntKind.i64.wrap (w.tmod 40)) = v at hw1 ⊢
  have hlw : (ws.take n).length = n := by rw [List.length_take]; omega
  have hlc : (cs.take n).length = n := by rw [List.length_take]; omega
  have hs' : Small (ws.take n) := ⟨by rw [hlw]; omega, fun k => by
    by_cases hk : k < n
    · rw [take_getD 0 hk]; exact hs.2 k
    · rw [getD_len (by rw [hlw]; omega)]; omega⟩
  have ht := mkT_ok (cs := cs.take n) (ms := ms) v hs' (Nat.le_of_eq hlw.symm)
  have hss : law23_Statuses_F ms (n : Int) = some (mkT (ws.take n) (cs.take n) ms n v).ss := statuses_F ms n (by omega) m8
  refine Post.run (Post.bnd awake23 (Post.brF rfl (Post.bnd hws (Post.bnd hcs ?_))))
  rw [← hn]
  obtain ⟨l, hl1, hl2⟩ := lines_F (mkT (ws.take n) (cs.take n) ms n v) ht hw1
  refine Post.bnd (cut_take rfl hnw) (Post.bnd (cut_take rfl hnc) (Post.bnd hss (Post.bnd (of_F _ _ n (by omega) (by omega) (by rw [hlw, hlc]; omega) (by omega)) (Post.bnd hl1 (Post.brF rfl (Post.br (fun c => Post.brT rfl (Post.pure ?_)) (fun c => ?_)))))))
  · have hnil : l = [] := List.eq_nil_of_length_eq_zero (by simpa using c)
    rw [hnil] at hl2
    have h0 : 0 = n := hl2
    simp [← h0]
  · have hTn : (mkT (ws.take n) (cs.take n) ms n v).n = n := rfl
    have hTw : (mkT (ws.take n) (cs.take n) ms n v).w = v := rfl
    have hTws : (mkT (ws.take n) (cs.take n) ms n v).ws = ws.take n := rfl
    have hTcs : (mkT (ws.take n) (cs.take n) ms n v).cs = cs.take n := rfl
    generalize mkT (ws.take n) (cs.take n) ms n v = t at *
    match l, hl2 with
    | [], _ => simp at c
    | x :: r, hl2 =>
      obtain ⟨e, he1, he2, he3⟩ := hl2
      have hlt := he1.lt
      have hl := ht.len
      obtain ⟨q, hq1, hq2⟩ := lines_F (t.from e) (Tx.from_ok ht hlt.2) (by show 1 ≤ t.w; omega)
      have hqn : (t.from e).n = n - e := by show t.n - e = _; rw [hTn]
      have hr := he3.uniq (Tx.from_lines ht hlt.2 (a := 0) hq2)
      subst hr
      refine Post.bnd (idx_get (k := 0) rfl (by simp)) ?_
      rw [show (x :: q.map (sft e))[0] = x from rfl, he2]
      dsimp only
      refine Post.bnd (cut_rest (by omega)) (Post.bnd (cut_rest (by omega)) (Post.bnd (of_F _ _ (n - e) (by rw [List.length_drop]; omega) (by rw [List.length_drop]; omega) (by rw [List.length_drop, List.length_drop]; rw [if_neg (by omega)]; omega) (by omega)) (Post.bnd (cut_rest (by omega)) ?_)))
      have hq1' : fill_Lines_F (rul ((ws.take n).drop e) ((cs.take n).drop e) (n - e)) (t.ss.drop e) v = some (q, none) := by
        rw [← hTws, ← hTcs, ← hqn, ← hTw]; exact hq1
      have hlen := hq2.len
      have hrb := he3.bound
      refine Post.bnd hq1' (Post.brF rfl (Post.brF ?_ ?_))
      · dsimp only
        rw [List.length_cons, List.length_map, wrap64 (by omega) (by omega)]
        simp
      · dsimp only
        refine Post.altL (count (L := fun s : (List Ln) × Int × (List Ln) × Int × Int => law23_FillRest_L16 s.1 s.2.1 s.2.2.1 s.2.2.2.1 s.2.2.2.2) q.length
          (fun k => (((0 : Int), (e : Int), t.s e == 2, t.s e == 0) :: q.map (sft e), (e : Int), q, (q.length : Int), ((k : Nat) : Int))) (r := Sum.inl ()) rfl (fun k hk => ?_) ?_) (Post.pure rfl)
        · dsimp only
          unfold law23_FillRest_L16
          have hm : (q.map (sft e))[k]'(by rw [List.length_map]; exact hk) = sft e q[k] := List.getElem_map ..
          have hb := hrb (sft e q[k]) (by rw [← hm]; exact List.getElem_mem _)
          have hb' : (0 ≤ q[k].1 + (e : Int) ∧ q[k].1 + (e : Int) ≤ t.n) ∧ 0 ≤ q[k].2.1 + (e : Int) ∧ q[k].2.1 + (e : Int) ≤ t.n := hb
          refine Post.brT (decide_eq_true (by omega)) (Post.bnd (idx_get (k := k) rfl hk) (Post.bnd (box0 _) (Post.bnd (box0 _) (Post.bnd (box0 _) (Post.bnd (box0 _) (Post.bnd (box0 _) ?_))))))
          rw [wrap_succ (k := k) (by omega)]
          refine Post.bnd (idx_get (k := k + 1) rfl (by rw [List.length_cons, List.length_map]; omega)) ?_
          rw [List.getElem_cons_succ, hm]
          refine Post.brF ?_ (Post.pure rfl)
          rw [wrap64 (n := q[k].1 + (e : Int)) (by omega) (by omega), wrap64 (n := q[k].2.1 + (e : Int)) (by omega) (by omega)]
          simp [sft]
        · dsimp only
          unfold law23_FillRest_L16
          exact Post.brF (decide_eq_false (by omega)) (Post.pure rfl)

/-! ### one line alone -/
theorem fillWide_F (wn ns ms : List Int) (h1 : wn.length ≤ 1048576) (h2 : ns.length ≤ 1048576) (h8 : ∀ n ∈ wn, 0 ≤ n ∧ n ≤ 255) (m8 : ∀ n ∈ ms, 0 ≤ n ∧ n ≤ 255) : law23_FillWide_F wn ns ms = some true := by
  unfold law23_FillWide_F law23_FillWide_T
  obtain ⟨ws, hws, hs, hwl⟩ := widths_F wn (by omega) h8
  obtain ⟨cs, hcs, hcl⟩ := classes_F ns (by omega)
  obtain ⟨n, hn, hnw, hnc, _⟩ := min_nat ws cs
  refine Post.run (Post.bnd awake23 (Post.brF rfl (Post.bnd hws (Post.bnd hcs (Post.bnd (of_F ws cs n hnw hnc hn (by omega)) (Post.bnd (count_F ws cs n) (Post.bnd (statuses_F ms n (by omega) m8) ?_)))))))
  let g := fun (k i : Nat) => if i < k ∧ i < n ∧ sta ms n i = 2 then (1 : Int) else sta ms n i
  have hg0 : tab (n + 1) (sta ms n) = tab (n + 1) (g 1) := tab_congr fun i hi => by
    by_cases h : i < 1 ∧ i < n ∧ sta ms n i = 2
    · have : i = 0 := by omega
      subst this
      exact absurd h.2.2 (by unfold sta; rw [if_pos rfl]; omega)
    · exact (if_neg h).symm
  refine Post.bnd (count (L := fun s : (List Int × List Int) × Int × List Int × Int => law23_FillWide_L7 s.1 s.2.1 s.2.2.1 s.2.2.2) (n - 1)
    (fun k => (rul ws cs n, (n : Int), tab (n + 1) (g (k + 1)), ((k + 1 : Nat) : Int))) (r := (rul ws cs n, (n : Int), tab (n + 1) (g n))) (by rw [hg0]; rfl) (fun k hk => ?_) ?_) ?_
  · dsimp only
    unfold law23_FillWide_L7
    refine Post.brT (decide_eq_true (by omega)) (Post.idx 0 (k + 1) rfl (by rw [tab_len]; omega) ?_)
    rw [tab_getD _ _ (by omega)]
    have hgk : g (k + 1) (k + 1) = sta ms n (k + 1) := if_neg (by omega)
    rw [hgk]
    refine Post.br (fun c => Post.idx 0 (k + 1) rfl (by rw [tab_len]; omega) (Post.pure ?_)) (fun c => Post.pure ?_)
    · have c : sta ms n (k + 1) = 2 := by simpa using c
      rw [wrap_succ (k := k + 1) (by omega), toNat_nat, tab_set]
      congr 4
      refine tab_congr fun i hi => ?_
      by_cases e : i = k + 1
      · subst e
        rw [if_pos rfl]
        exact (if_pos ⟨by omega, by omega, c⟩).symm
      · rw [if_neg e]
        show (if i < k + 1 ∧ i < n ∧ sta ms n i = 2 then (1 : Int) else sta ms n i) = if i < k + 1 + 1 ∧ i < n ∧ sta ms n i = 2 then (1 : Int) else sta ms n i
        by_cases h : i < k + 1 ∧ i < n ∧ sta ms n i = 2
        · rw [if_pos h, if_pos ⟨by omega, h.2⟩]
        · rw [if_neg h, if_neg (fun g => h ⟨by omega, g.2⟩)]
    · have c : ¬ sta ms n (k + 1) = 2 := by simpa using c
      rw [wrap_succ (k := k + 1) (by omega)]
      congr 4
      refine tab_congr fun i hi => ?_
      show (if i < k + 1 ∧ i < n ∧ sta ms n i = 2 then (1 : Int) else sta ms n i) = if i < k + 1 + 1 ∧ i < n ∧ sta ms n i = 2 then (1 : Int) else sta ms n i
      by_cases h : i < k + 1 ∧ i < n ∧ sta ms n i = 2
      · rw [if_pos h, if_pos ⟨by omega, h.2⟩]
      · rw [if_neg h, if_neg (fun g => h ⟨by
          by_cases e : i = k + 1
          · exact absurd (e ▸ g.2.2) c
          · omega, g.2⟩)]
  · dsimp only
    unfold law23_FillWide_L7
    refine Post.brF (decide_eq_false (by omega)) (Post.pure ?_)
    congr 3
    refine tab_congr fun i hi => ?_
    show (if i < n - 1 + 1 ∧ i < n ∧ sta ms n i = 2 then (1 : Int) else sta ms n i) = if i < n ∧ i < n ∧ sta ms n i = 2 then (1 : Int) else sta ms n i
    by_cases h : i < n ∧ sta ms n i = 2
    · rw [if_pos ⟨by omega, h⟩, if_pos ⟨h.1, h⟩]
    · rw [if_neg (fun g => h g.2), if_neg (fun g => h g.2)]
  · dsimp only
    refine Post.bnd (shown_F hs hnw _ _) ?_
    have hv1 : 1 ≤ (if sho ws cs n (0 : Int) (n : Int) > 1 then sho ws cs n (0 : Int) (n : Int) else 1) ∧ sho ws cs n (0 : Int) (n : Int) ≤ (if sho ws cs n (0 : Int) (n : Int) > 1 then sho ws cs n (0 : Int) (n : Int) else 1) := by split <;> omega
    generalize (if sho ws cs n (0 : Int) (n : Int) > 1 then sho ws cs n (0 : Int) (n : Int) else 1) = v at hv1 ⊢
    have gr : ∀ i, 0 ≤ g n i ∧ g n i ≤ 2 := fun i => by
      show 0 ≤ (if i < n ∧ i < n ∧ sta ms n i = 2 then (1 : Int) else sta ms n i) ∧ (if i < n ∧ i < n ∧ sta ms n i = 2 then (1 : Int) else sta ms n i) ≤ 2
      have := sta_range ms n i
      split <;> omega
    have ht : (Tx.mk ws cs n (tab (n + 1) (g n)) v).Ok := ⟨hs, hnw, by show n ≤ _; omega, tab_len _ _, fun j => by
      show 0 ≤ (tab (n + 1) (g n)).getD j 0 ∧ (tab (n + 1) (g n)).getD j 0 ≤ 2
      by_cases hj : j < n + 1
      · rw [tab_getD _ _ hj]; exact gr j
      · rw [getD_len (by rw [tab_len]; omega)]; omega⟩
    obtain ⟨l, hl1, hl2⟩ := lines_F _ ht hv1.1
    refine Post.bnd hl1 (Post.brT rfl (Post.br (fun c => ?_) (fun c => ?_)))
    · have h0 : n = 0 := by simpa using c
      have hl3 := hl2.len
      have hl4 : l = [] := List.eq_nil_of_length_eq_zero (by
        have : (0 : Nat) + l.length ≤ n := hl3
        omega)
      subst hl4
      exact Post.brT rfl (Post.pure rfl)
    · have h0 : ¬ n = 0 := by simpa using c
      have hs2 : (Tx.mk ws cs n (tab (n + 1) (g n)) v).s n = 2 := by
        show (tab (n + 1) (g n)).getD n 0 = 2
        rw [tab_getD _ _ (by omega)]
        show (if n < n ∧ n < n ∧ sta ms n n = 2 then (1 : Int) else sta ms n n) = 2
        rw [if_neg (by omega)]
        unfold sta
        rw [if_neg h0, if_pos rfl]
      have hE : (Tx.mk ws cs n (tab (n + 1) (g n)) v).End 0 n := .inl ⟨⟨by omega, Nat.le_refl n, hv1.2⟩, hs2, fun j g1 g2 => by
        show (tab (n + 1) (g n)).getD j 0 ≠ 2
        rw [tab_getD _ _ (by omega)]
        show (if j < n ∧ j < n ∧ sta ms n j = 2 then (1 : Int) else sta ms n j) ≠ 2
        by_cases h : sta ms n j = 2
        · rw [if_pos ⟨g2, g2, h⟩]; omega
        · rw [if_neg (fun g => h g.2.2)]; exact h⟩
      obtain ⟨r, hr1, hr2⟩ := hl2.cons hE
      have hr3 := Tx.Lines.nil (t := Tx.mk ws cs n (tab (n + 1) (g n)) v) hr2
      subst hr3
      rw [hs2] at hr1
      subst hr1
      refine Post.brT (decide_eq_true (by omega)) (Post.brT rfl (Post.bnd (idx_get (k := 0) rfl (by simp)) (Post.pure ?_)))
      simp

theorem fillRest_all (x : Tys.I [.sl (.int .u8), .sl (.int .u8), .sl (.int .u8), .int .u8]) (h : WfAll [.sl (.int .u8), .sl (.int .u8), .sl (.int .u8), .int .u8] x) (hb : bulkAll [.sl (.int .u8), .sl (.int .u8), .sl (.int .u8), .int .u8] x ≤ 1048576) : law23_FillRest_F x.1 x.2.1 x.2.2.1 x.2.2.2.1 = some true := by
  simp only [bulkAll, bulk] at hb
  exact fillRest_F _ _ _ _ (by omega) (by omega) (fun n hn => wf_u8 (h.1.2 n hn)) (fun n hn => wf_u8 (h.2.2.1.2 n hn)) (wf_u8 h.2.2.2.1)
theorem fillWide_all (x : Tys.I [.sl (.int .u8), .sl (.int .u8), .sl (.int .u8)]) (h : WfAll [.sl (.int .u8), .sl (.int .u8), .sl (.int .u8)] x) (hb : bulkAll [.sl (.int .u8), .sl (.int .u8), .sl (.int .u8)] x ≤ 1048576) : law23_FillWide_F x.1 x.2.1 x.2.2.1 = some true := by
  simp only [bulkAll, bulk] at hb
  exact fillWide_F _ _ _ (by omega) (by omega) (fun n hn => wf_u8 (h.1.2 n hn)) (fun n hn => wf_u8 (h.2.2.1.2 n hn))

end Go.Proofs.Ytafomgonecamlaa
