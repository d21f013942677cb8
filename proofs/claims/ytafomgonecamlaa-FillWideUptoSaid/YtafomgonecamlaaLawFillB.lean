/-
  The laws of lines: what the document says of each line; lines that are too wide; what stands behind a line; one line alone.
-/
import Derived.Test.YtafomgonecamlaaLawFill
namespace Go.Proofs.Ytafomgonecamlaa
set_option linter.all false

theorem box0 {α : Type} (x : α) : idx [x] 0 = some x := rfl
theorem tmod_lt {a m : Int} (ha : 0 ≤ a) (hm : 0 < m) : 0 ≤ a.tmod m ∧ a.tmod m < m := by
  rw [Int.tmod_eq_emod_of_nonneg ha]
  exact ⟨Int.emod_nonneg _ (by omega), Int.emod_lt_of_pos _ hm⟩
theorem width_ok {w : Int} (h : 0 ≤ w ∧ w ≤ 255) : 1 ≤ IntKind.i64.wrap (1 + IntKind.i64.wrap (w.tmod 40)) := by
  have := tmod_lt (a := w) (m := 40) h.1 (by omega)
  rw [wrap64 (n := w.tmod 40) (by omega) (by omega), wrap64 (by omega) (by omega)]
  omega

/-! ### the document's examples -/
def Tx.fB (t : Tx) (f j : Nat) : Bool := decide (f < j) && (decide (j ≤ t.n) && decide (sho t.ws t.cs t.n (f : Int) (j : Int) ≤ t.w))
theorem Tx.fB_iff {t : Tx} {f j : Nat} : t.fB f j = true ↔ t.F f j := by
  unfold Tx.fB Tx.F
  simp only [Bool.and_eq_true, decide_eq_true_eq]
def Tx.wB (t : Tx) (j : Nat) : Bool := who t.ws t.n (j : Int)
def Tx.endB (t : Tx) (f e : Nat) : Bool :=
  (t.fB f e && (t.s e == 2 && (List.range (t.n + 1)).all fun j => !(decide (f < j) && decide (j < e)) || t.s j != 2)) ||
  (((List.range (t.n + 1)).all fun j => !t.fB f j || t.s j != 2) && (t.fB f e && (t.s e == 1 && (List.range (t.n + 1)).all fun j => !(decide (e < j) && t.fB f j) || t.s j != 1))) ||
  (((List.range (t.n + 1)).all fun j => !t.fB f j || (t.s j != 2 && t.s j != 1)) && (t.fB f e && (t.wB e && (List.range (t.n + 1)).all fun j => !(decide (e < j) && t.fB f j) || !t.wB j))) ||
  (((List.range (t.n + 1)).all fun j => !t.fB f j || (t.s j != 2 && (t.s j != 1 && !t.wB j))) && (decide (f < e) && (decide (e ≤ t.n) && ((t.wB e || t.s e == 2) && (List.range (t.n + 1)).all fun j => !(decide (f < j) && decide (j < e)) || (!t.wB j && t.s j != 2)))))
theorem Tx.endB_ok {t : Tx} {f e : Nat} (h : t.endB f e = true) : t.End f e := by
  have all : ∀ {p : Nat → Bool}, (List.range (t.n + 1)).all p = true → ∀ j, j ≤ t.n → p j = true := fun h j hj => List.all_eq_true.1 h j (List.mem_range.2 (by omega))
  have fin : ∀ {j}, t.F f j → j ≤ t.n := fun h => h.2.1
  unfold Tx.endB at h
  rw [Bool.or_eq_true, Bool.or_eq_true, Bool.or_eq_true] at h
  rcases h with ((h | h) | h) | h
  · simp only [Bool.and_eq_true] at h
    obtain ⟨h1, h2, h3⟩ := h
    have hF := Tx.fB_iff.1 h1
    refine .inl ⟨hF, by simpa using h2, fun j g1 g2 => ?_⟩
    have := all h3 j (by have := hF.2.1; omega)
    rw [decide_eq_true g1, decide_eq_true g2] at this
    simpa using this
  · simp only [Bool.and_eq_true] at h
    obtain ⟨h0, h1, h2, h3⟩ := h
    refine .inr (.inl ⟨fun j hj => ?_, Tx.fB_iff.1 h1, by simpa using h2, fun j g1 g2 => ?_⟩)
    · have := all h0 j (fin hj)
      rw [Tx.fB_iff.2 hj] at this
      simpa using this
    · have := all h3 j (fin g2)
      rw [decide_eq_true g1, Tx.fB_iff.2 g2] at this
      simpa using this
  · simp only [Bool.and_eq_true] at h
    obtain ⟨h0, h1, h2, h3⟩ := h
    refine .inr (.inr (.inl ⟨fun j hj => ?_, Tx.fB_iff.1 h1, h2, fun j g1 g2 => ?_⟩))
    · have := all h0 j (fin hj)
      rw [Tx.fB_iff.2 hj] at this
      simpa using this
    · have := all h3 j (fin g2)
      rw [decide_eq_true g1, Tx.fB_iff.2 g2] at this
      have : t.wB j = false := by simpa using this
      unfold Tx.W
      rw [show who t.ws t.n (j : Int) = false from this]
      simp
  · simp only [Bool.and_eq_true] at h
    obtain ⟨h0, h1, h2, h4, h3⟩ := h
    refine .inr (.inr (.inr ⟨fun j hj => ?_, of_decide_eq_true h1, of_decide_eq_true h2, ?_, fun j g1 g2 => ?_⟩))
    · have := all h0 j (fin hj)
      rw [Tx.fB_iff.2 hj] at this
      have : t.s j ≠ 2 ∧ t.s j ≠ 1 ∧ t.wB j = false := by simpa using this
      refine ⟨this.1, this.2.1, ?_⟩
      unfold Tx.W
      rw [show who t.ws t.n (j : Int) = false from this.2.2]
      simp
    · rw [Bool.or_eq_true] at h4
      exact h4.imp id (fun h => by simpa using h)
    · have h2 := of_decide_eq_true h2
      have := all h3 j (by omega)
      rw [decide_eq_true g1, decide_eq_true g2] at this
      have : t.wB j = false ∧ t.s j ≠ 2 := by simpa using this
      refine ⟨?_, this.2⟩
      unfold Tx.W
      rw [show who t.ws t.n (j : Int) = false from this.1]
      simp

theorem Tx.Lines.nil {t : Tx} {l : List Ln} (h : t.Lines t.n l) : l = [] := by
  have := h.len
  exact List.eq_nil_of_length_eq_zero (by omega)
theorem Tx.Lines.cons {t : Tx} {f e : Nat} (hE : t.End f e) : ∀ {l : List Ln}, t.Lines f l → ∃ r, l = ((f : Int), (e : Int), t.s e == 2, t.s e == 0) :: r ∧ t.Lines e r
  | [], h => by
    have h : f = t.n := h
    have := hE.lt
    omega
  | x :: r, h => by
    obtain ⟨d, h1, h2, h3⟩ := h
    have := h1.uniq hE
    subst this
    exact ⟨r, by rw [h2], h3⟩
/-- the same lines are there only once -/
theorem Tx.Lines.uniq {t : Tx} : ∀ {l : List Ln} {f : Nat} {m : List Ln}, t.Lines f l → t.Lines f m → l = m
  | [], f, m, h, g => by
    have h : f = t.n := h
    subst h
    exact g.nil.symm
  | x :: r, f, m, h, g => by
    obtain ⟨d, h1, h2, h3⟩ := h
    obtain ⟨q, e, g2⟩ := g.cons h1
    rw [h2, e, h3.uniq g2]

theorem small_of (ws : List Int) (h : ws.all (fun x => decide (0 ≤ x) && decide (x ≤ 2)) = true) (hl : ws.length ≤ 4194304) : Small ws := by
  refine ⟨hl, fun k => ?_⟩
  by_cases hk : k < ws.length
  · have := List.all_eq_true.1 h (ws.getD k 0) (by
      rw [show ws.getD k 0 = ws[k] by simp [List.getD, hk]]
      exact List.getElem_mem hk)
    simpa using this
  · rw [getD_len (by omega)]; omega
theorem range_of (ss : List Int) (h : ss.all (fun x => decide (0 ≤ x) && decide (x ≤ 2)) = true) (j : Nat) : 0 ≤ ss.getD j 0 ∧ ss.getD j 0 ≤ 2 := by
  by_cases hk : j < ss.length
  · have := List.all_eq_true.1 h (ss.getD j 0) (by
      rw [show ss.getD j 0 = ss[j] by simp [List.getD, hk]]
      exact List.getElem_mem hk)
    simpa using this
  · rw [getD_len (by omega)]; omega
def t1 : Tx := ⟨[1, 1, 1, 1, 1], [1, 1, 9, 1, 1], 5, [0, 0, 0, 1, 0, 2], 2⟩
def t2 : Tx := ⟨[1, 1, 1], [1, 1, 1], 3, [0, 0, 0, 2], 2⟩
def t3 : Tx := ⟨[2], [30], 1, [0, 2], 1⟩
theorem t1_ok : t1.Ok := ⟨small_of _ (by decide) (by decide), by decide, by decide, by decide, range_of _ (by decide)⟩
theorem t2_ok : t2.Ok := ⟨small_of _ (by decide) (by decide), by decide, by decide, by decide, range_of _ (by decide)⟩
theorem t3_ok : t3.Ok := ⟨small_of _ (by decide) (by decide), by decide, by decide, by decide, range_of _ (by decide)⟩
theorem awake23 : law23_awake_F = some true := by
  unfold law23_awake_F law23_awake_T
  obtain ⟨l1, h1, g1⟩ := lines_F t1 t1_ok (by decide)
  obtain ⟨l2, h2, g2⟩ := lines_F t2 t2_ok (by decide)
  obtain ⟨l3, h3, g3⟩ := lines_F t3 t3_ok (by decide)
  obtain ⟨r1, e1, g1⟩ := g1.cons (f := 0) (e := 3) (Tx.endB_ok (by decide +kernel))
  obtain ⟨q1, e1', g1⟩ := g1.cons (f := 3) (e := 5) (Tx.endB_ok (by decide +kernel))
  have n1 := Tx.Lines.nil (t := t1) g1
  obtain ⟨r2, e2, g2⟩ := g2.cons (f := 0) (e := 2) (Tx.endB_ok (by decide +kernel))
  obtain ⟨q2, e2', g2⟩ := g2.cons (f := 2) (e := 3) (Tx.endB_ok (by decide +kernel))
  have n2 := Tx.Lines.nil (t := t2) g2
  obtain ⟨r3, e3, g3⟩ := g3.cons (f := 0) (e := 1) (Tx.endB_ok (by decide +kernel))
  have n3 := Tx.Lines.nil (t := t3) g3
  subst n1 n2 n3 e1' e2' e1 e2 e3
  refine Post.run (Post.bnd (of_F [1, 1, 1, 1, 1] [1, 1, 9, 1, 1] 5 (by decide) (by decide) (by decide) (by decide)) (Post.bnd h1 ?_))
  refine Post.bnd (of_F [1, 1, 1] [1, 1, 1] 3 (by decide) (by decide) (by decide) (by decide)) (Post.bnd h2 ?_)
  refine Post.bnd (of_F [2] [30] 1 (by decide) (by decide) (by decide) (by decide)) (Post.bnd h3 ?_)
  refine Post.brT rfl (Post.brT rfl (Post.brT rfl (Post.brT rfl ?_)))
  refine Post.bnd (idx_get (k := 0) rfl (by decide)) (Post.brT (by decide) ?_)
  refine Post.bnd (idx_get (k := 1) rfl (by decide)) (Post.brT (by decide) ?_)
  refine Post.brT rfl (Post.bnd (idx_get (k := 0) rfl (by decide)) (Post.brT (by decide) ?_))
  exact Post.brT rfl (Post.bnd (idx_get (k := 0) rfl (by decide)) (Post.pure (by decide)))

/-! ### a text by numbers -/
def mkT (ws cs ms : List Int) (n : Nat) (w : Int) : Tx := ⟨ws, cs, n, tab (n + 1) (sta ms n), w⟩
theorem mkT_ok {ws cs ms : List Int} {n : Nat} (w : Int) (hs : Small ws) (hw : n ≤ ws.length) : (mkT ws cs ms n w).Ok := by
  have hb := hs.1
  refine ⟨hs, hw, by show n ≤ _; omega, tab_len _ _, fun j => ?_⟩
  show 0 ≤ (tab (n + 1) (sta ms n)).getD j 0 ∧ (tab (n + 1) (sta ms n)).getD j 0 ≤ 2
  by_cases hj : j < n + 1
  · rw [tab_getD _ _ hj]; exact sta_range ms n j
  · rw [getD_len (by rw [tab_len]; omega)]; omega
theorem mkT_last {ws cs ms : List Int} {n : Nat} {w : Int} (hn : 0 < n) : (mkT ws cs ms n w).s n = 2 := by
  show (tab (n + 1) (sta ms n)).getD n 0 = 2
  rw [tab_getD _ _ (by omega)]
  unfold sta
  rw [if_neg (by omega), if_pos rfl]

theorem fillLines_F (wn ns ms : List Int) (w : Int) (h1 : wn.length ≤ 1048576) (h2 : ns.length ≤ 1048576) (h8 : ∀ n ∈ wn, 0 ≤ n ∧ n ≤ 255) (m8 : ∀ n ∈ ms, 0 ≤ n ∧ n ≤ 255) (w8 : 0 ≤ w ∧ w ≤ 255) : law23_FillLines_F wn ns ms w = some true := by
  unfold law23_FillLines_F law23_FillLines_T
  obtain ⟨ws, hws, hs, hwl⟩ := widths_F wn (by omega) h8
  obtain ⟨cs, hcs, hcl⟩ := classes_F ns (by omega)
  obtain ⟨n, hn, hnw, hnc, _⟩ := min_nat ws cs
  have hw1 := width_ok w8
  generalize IntKind.i64.wrap (1 + IntKind.i64.wrap (w.tmod 40)) = v at hw1 ⊢
  have ht := mkT_ok (cs := cs) (ms := ms) v hs hnw
  have hss : law23_Statuses_F ms (n : Int) = some (mkT ws cs ms n v).ss := statuses_F ms n (by omega) m8
  have hn' : n = (mkT ws cs ms n v).n := rfl
  have hl := ht.len
  obtain ⟨l, hl1, hl2⟩ := lines_F (mkT ws cs ms n v) ht hw1
  refine Post.run (Post.bnd awake23 (Post.brF rfl (Post.bnd hws (Post.bnd hcs (Post.bnd (of_F ws cs n hnw hnc hn (by omega)) (Post.bnd (count_F ws cs n) (Post.bnd hss (Post.bnd hl1 ?_))))))))
  generalize hT : mkT ws cs ms n v = t at *
  have er : rul ws cs n = rul t.ws t.cs t.n := by rw [← hT]; rfl
  have ew : v = t.w := by rw [← hT]; rfl
  rw [er, ew]
  have hlen := hl2.len
  have hb := ht.nb
  obtain ⟨z, hz, h⟩ := loop_ex (L := fun s : (List Int × List Int) × List Int × Int × (Option (Int × ByteArray × Int)) × Int × (List Ln) × Int × Int => law23_FillLines_L9 s.1 s.2.1 s.2.2.1 s.2.2.2.1 s.2.2.2.2.1 s.2.2.2.2.2.1 s.2.2.2.2.2.2.1 s.2.2.2.2.2.2.2)
    (I := fun s => ∃ a i : Nat, i ≤ l.length ∧ a ≤ t.n ∧ s = (rul t.ws t.cs t.n, t.ss, t.w, none, (a : Int), l, (l.length : Int), (i : Int)) ∧ t.Lines a (l.drop i))
    (m := fun s => l.length - s.2.2.2.2.2.2.2.toNat) (R := fun z => z = .inl (rul t.ws t.cs t.n, none, (t.n : Int))) (s0 := (rul t.ws t.cs t.n, t.ss, t.w, none, 0, l, (l.length : Int), 0))
    (by
      rintro s ⟨a, i, i1, i2, rfl, i3⟩
      dsimp only
      unfold law23_FillLines_L9
      by_cases hi : i < l.length
      · rw [List.drop_eq_getElem_cons hi] at i3
        obtain ⟨e, he1, he2, he3⟩ := i3
        have hlt := he1.lt
        obtain ⟨d, hd1, hd2⟩ := lawEnd_F t ht (f := a) (by omega)
        have := hd2.uniq he1
        subst this
        refine Post.brT (decide_eq_true (by omega)) (Post.bnd (idx_get (k := i) rfl hi) ?_)
        rw [he2]
        refine Post.bnd (box0 _) (Post.brF (by simp) (Post.bnd (box0 _) (Post.brF (decide_eq_false (by dsimp only; omega)) (Post.bnd (box0 _) (Post.bnd (count_F _ _ _) (Post.brF (decide_eq_false (by dsimp only; omega)) (Post.bnd (box0 _) (Post.bnd hd1 (Post.brF (by simp) ?_)))))))))
        refine Post.bnd (box0 _) (Post.bnd (box0 _) (Post.idx 0 d rfl (by omega) (Post.brF (by simp [Tx.s]) (Post.bnd (box0 _) (Post.bnd (box0 _) (Post.idx 0 d rfl (by omega) (Post.brF (by simp [Tx.s]) (Post.bnd (box0 _) (Post.pure ?_)))))))))
        rw [wrap_succ (k := i) (by omega)]
        exact ⟨⟨d, i + 1, by omega, hlt.2, rfl, he3⟩, by dsimp only; omega⟩
      · have hi : i = l.length := by omega
        subst hi
        rw [List.drop_length] at i3
        have i3 : a = t.n := i3
        subst i3
        exact Post.brF (decide_eq_false (by omega)) (Post.pure rfl))
    ⟨0, 0, by omega, by omega, rfl, hl2⟩
  subst h
  exact Post.altL hz (Post.brT rfl (Post.bnd (count_F _ _ _) (Post.pure (by simp))))

/-! ### lines that are too wide -/
/-- how many of some scalars take cells -/
def cnt (ws : List Int) (f : Nat) : Nat → Nat
  | 0 => 0
  | k + 1 => cnt ws f k + (if ws.getD (f + k) 0 > 0 then 1 else 0)
theorem cnt_succ (ws : List Int) (f k : Nat) : cnt ws f (k + 1) = cnt ws f k + (if ws.getD (f + k) 0 > 0 then 1 else 0) := rfl
theorem cnt_le (ws : List Int) (f : Nat) : ∀ k, cnt ws f k ≤ k
  | 0 => Nat.le_refl _
  | k + 1 => by
    have := cnt_le ws f k
    rw [cnt_succ]
    split <;> omega
theorem cnt_one {ws : List Int} {f : Nat} : ∀ {k : Nat}, (∀ j, 0 < j → j < k → ws.getD (f + j) 0 = 0) → cnt ws f k ≤ 1
  | 0, _ => by simp [cnt]
  | 1, _ => cnt_le ws f 1
  | k + 2, h => by
    show cnt ws f (k + 1) + (if ws.getD (f + (k + 1)) 0 > 0 then 1 else 0) ≤ 1
    rw [if_neg (by rw [h (k + 1) (by omega) (by omega)]; omega), Nat.add_zero]
    exact cnt_one fun j h1 h2 => h j h1 (by omega)
theorem Tx.W_zero {t : Tx} {j : Nat} (hj : j < t.n) (h : ¬ t.W j) : t.ws.getD j 0 = 0 := by
  have h1 : ((j : Int) == (t.n : Int)) = false := by simp; omega
  have h2 : decide (0 ≤ (j : Int) ∧ (j : Int) < (t.n : Int)) = true := decide_eq_true (by omega)
  unfold Tx.W who at h
  rw [h1, h2, Bool.false_or, Bool.true_and, show (j : Int).toNat = j from rfl] at h
  simpa using h
theorem wide_one {t : Tx} {f e : Nat} (h : t.End f e) (hw : sho t.ws t.cs t.n (f : Int) (e : Int) > t.w) : cnt t.ws f (e - f) ≤ 1 := by
  have hlt := h.lt
  have no : ¬ t.F f e := fun hF => by have := hF.2.2; omega
  rcases h with ⟨h, _⟩ | ⟨_, h, _⟩ | ⟨_, h, _⟩ | ⟨_, _, _, _, h⟩
  · exact absurd h no
  · exact absurd h no
  · exact absurd h no
  · exact cnt_one fun j h1 h2 => Tx.W_zero (by omega) (h (f + j) (by omega) (by omega)).1
theorem sho_small {ws cs : List Int} {n : Nat} (hs : Small ws) (hw : n ≤ ws.length) {f j : Nat} (h1 : f ≤ j) (h2 : j ≤ n) : sho ws cs n (f : Int) (j : Int) ≤ 2 * n := by
  rw [sho_at h1 h2]
  have s1 := sol_le cs j
  have p1 := pre_small hs (max f (sol cs j).toNat) (by omega)
  have p2 := pre_small hs f (by omega)
  omega
theorem wide_end {t : Tx} (ht : t.Ok) (hw : 2 * (t.n : Int) ≤ t.w) (hl : t.s t.n = 2) {f e : Nat} (h : t.End f e) : t.s e = 2 ∧ ∀ j, f < j → j < e → t.s j ≠ 2 := by
  have hlt := h.lt
  have all : ∀ j, f < j → j ≤ t.n → t.F f j := fun j h1 h2 => ⟨h1, h2, Int.le_trans (sho_small ht.small ht.nw (by omega) h2) hw⟩
  rcases h with ⟨_, h1, h2⟩ | ⟨h, _⟩ | ⟨h, _⟩ | ⟨h, _⟩
  · exact ⟨h1, h2⟩
  · exact absurd hl (h t.n (all _ (by omega) (Nat.le_refl _)))
  · exact absurd hl (h t.n (all _ (by omega) (Nat.le_refl _))).1
  · exact absurd hl (h t.n (all _ (by omega) (Nat.le_refl _))).1

theorem fillFits_F (wn ns ms : List Int) (w : Int) (h1 : wn.length ≤ 1048576) (h2 : ns.length ≤ 1048576) (h8 : ∀ n ∈ wn, 0 ≤ n ∧ n ≤ 255) (m8 : ∀ n ∈ ms, 0 ≤ n ∧ n ≤ 255) (w8 : 0 ≤ w ∧ w ≤ 255) : law23_FillFits_F wn ns ms w = some true := by
  unfold law23_FillFits_F law23_FillFits_T
  obtain ⟨ws, hws, hs, hwl⟩ := widths_F wn (by omega) h8
  obtain ⟨cs, hcs, hcl⟩ := classes_F ns (by omega)
  obtain ⟨n, hn, hnw, hnc, _⟩ := min_nat ws cs
  have hw1 := width_ok w8
  generalize IntKind.i64.wrap (1 + IntKind.i64.wrap (w.tmod 40)) = v at hw1 ⊢
  have ht := mkT_ok (cs := cs) (ms := ms) v hs hnw
  have ht2 := mkT_ok (cs := cs) (ms := ms) (2 * (n : Int) + 1) hs hnw
  have hlast : 0 < n → (mkT ws cs ms n (2 * (n : Int) + 1)).s n = 2 := fun h => mkT_last h
  have hss : law23_Statuses_F ms (n : Int) = some (mkT ws cs ms n v).ss := statuses_F ms n (by omega) m8
  have hl := ht.len
  obtain ⟨l, hl1, hl2⟩ := lines_F (mkT ws cs ms n v) ht hw1
  obtain ⟨q, hq1, hq2⟩ := lines_F (mkT ws cs ms n (2 * (n : Int) + 1)) ht2 (by show 1 ≤ 2 * (n : Int) + 1; omega)
  refine Post.run (Post.bnd awake23 (Post.brF rfl (Post.bnd hws (Post.bnd hcs (Post.bnd (of_F ws cs n hnw hnc hn (by omega)) (Post.bnd (count_F ws cs n) (Post.bnd hss (Post.bnd hl1 ?_))))))))
  have ess : (mkT ws cs ms n v).ss = (mkT ws cs ms n (2 * (n : Int) + 1)).ss := rfl
  have en : (mkT ws cs ms n v).n = n := rfl
  have en2 : (mkT ws cs ms n (2 * (n : Int) + 1)).n = n := rfl
  have er : rul (mkT ws cs ms n v).ws (mkT ws cs ms n v).cs (mkT ws cs ms n v).n = rul ws cs n := rfl
  have er2 : rul (mkT ws cs ms n (2 * (n : Int) + 1)).ws (mkT ws cs ms n (2 * (n : Int) + 1)).cs (mkT ws cs ms n (2 * (n : Int) + 1)).n = rul ws cs n := rfl
  have ew : (mkT ws cs ms n v).w = v := rfl
  have ew2 : (mkT ws cs ms n (2 * (n : Int) + 1)).w = 2 * (n : Int) + 1 := rfl
  have ews : (mkT ws cs ms n v).ws = ws := rfl
  have ecs : (mkT ws cs ms n v).cs = cs := rfl
  generalize mkT ws cs ms n v = t at *
  generalize mkT ws cs ms n (2 * (n : Int) + 1) = t' at *
  have hlen := hl2.len
  have hlen2 := hq2.len
  -- no line is too wide
  obtain ⟨z, hz, h⟩ := loop_ex (L := fun s : List Int × (List Int × List Int) × List Int × Int × (List Ln) × Int × Int => law23_FillFits_L9 s.1 s.2.1 s.2.2.1 s.2.2.2.1 s.2.2.2.2.1 s.2.2.2.2.2.1 s.2.2.2.2.2.2)
    (I := fun s => ∃ a i : Nat, i ≤ l.length ∧ a ≤ n ∧ s = (ws, rul ws cs n, t.ss, v, l, (l.length : Int), (i : Int)) ∧ t.Lines a (l.drop i))
    (m := fun s => l.length - s.2.2.2.2.2.2.toNat) (R := fun z => z = .inl (rul ws cs n, t.ss)) (s0 := (ws, rul ws cs n, t.ss, v, l, (l.length : Int), 0))
    (by
      rintro s ⟨a, i, i1, i2, rfl, i3⟩
      dsimp only
      unfold law23_FillFits_L9
      by_cases hi : i < l.length
      · rw [List.drop_eq_getElem_cons hi] at i3
        obtain ⟨e, he1, he2, he3⟩ := i3
        have hlt := he1.lt
        refine Post.brT (decide_eq_true (by omega)) (Post.bnd (idx_get (k := i) rfl hi) ?_)
        rw [he2]
        refine Post.bnd (box0 _) (Post.bnd (count (L := fun s : List Int × (List Int × List Int) × List Int × Int × Ln × Int × Int × (List Ln) × Int × Int => law23_FillFits_L13 s.1 s.2.1 s.2.2.1 s.2.2.2.1 s.2.2.2.2.1 s.2.2.2.2.2.1 s.2.2.2.2.2.2.1 s.2.2.2.2.2.2.2.1 s.2.2.2.2.2.2.2.2.1 s.2.2.2.2.2.2.2.2.2) (e - a)
          (fun k => (ws, rul ws cs n, t.ss, v, ((a : Int), (e : Int), t.s e == 2, t.s e == 0), ((cnt ws a k : Nat) : Int), ((a + k : Nat) : Int), l, (l.length : Int), (i : Int))) (r := (ws, rul ws cs n, t.ss, v, ((a : Int), (e : Int), t.s e == 2, t.s e == 0), ((cnt ws a (e - a) : Nat) : Int), l, (l.length : Int), (i : Int))) rfl (fun k hk => ?_) ?_) ?_)
        · dsimp only
          unfold law23_FillFits_L13
          have hcl := cnt_le ws a k
          refine Post.bnd (box0 _) (Post.brT (decide_eq_true (by dsimp only; omega)) (Post.idx 0 (a + k) rfl (by omega) (Post.br (fun c => Post.pure ?_) (fun c => Post.pure ?_))))
          · rw [wrap_succ (k := a + k) (by omega), wrap_succ (k := cnt ws a k) (by omega)]
            have : cnt ws a (k + 1) = cnt ws a k + 1 := by rw [cnt_succ, if_pos (by simpa using c)]
            rw [this]; rfl
          · rw [wrap_succ (k := a + k) (by omega)]
            have : cnt ws a (k + 1) = cnt ws a k := by rw [cnt_succ, if_neg (by simpa using c), Nat.add_zero]
            rw [this]; rfl
        · dsimp only
          unfold law23_FillFits_L13
          exact Post.bnd (box0 _) (Post.brF (decide_eq_false (by dsimp only; omega)) (Post.pure rfl))
        · dsimp only
          have next : (∃ a i' : Nat, i' ≤ l.length ∧ a ≤ n ∧ (ws, rul ws cs n, t.ss, v, l, (l.length : Int), ((i + 1 : Nat) : Int)) = (ws, rul ws cs n, t.ss, v, l, (l.length : Int), (i' : Int)) ∧ t.Lines a (l.drop i')) ∧ l.length - ((i + 1 : Nat) : Int).toNat < l.length - (i : Int).toNat := ⟨⟨e, i + 1, by omega, by omega, rfl, he3⟩, by omega⟩
          refine Post.bnd (box0 _) (Post.bnd (box0 _) (Post.bnd (shown_F hs hnw _ _) (Post.br (fun c => Post.brF (decide_eq_false ?_) (Post.pure ?_)) (fun c => Post.pure ?_))))
          · have c : sho ws cs n (a : Int) (e : Int) > v := of_decide_eq_true c
            have := wide_one he1 (by rw [ews, ecs, en, ew]; exact c)
            rw [ews] at this
            omega
          · rw [wrap_succ (k := i) (by omega)]; exact next
          · rw [wrap_succ (k := i) (by omega)]; exact next
      · have hi : i = l.length := by omega
        subst hi
        exact Post.brF (decide_eq_false (by omega)) (Post.pure rfl))
    ⟨0, 0, by omega, by omega, rfl, hl2⟩
  subst h
  refine Post.altL hz (Post.bnd (count_F ws cs n) ?_)
  dsimp only
  rw [wrap64 (n := 2 * (n : Int)) (by omega) (by omega), wrap64 (n := 2 * (n : Int) + 1) (by omega) (by omega)]
  rw [er2, ew2] at hq1
  rw [ess]
  refine Post.bnd hq1 ?_
  -- a wide line ends where it must
  obtain ⟨y, hy, h⟩ := loop_ex (L := fun s : (List Int × List Int) × List Int × (Option (Int × ByteArray × Int)) × Int × (List Ln) × Int × Int => law23_FillFits_L23 s.1 s.2.1 s.2.2.1 s.2.2.2.1 s.2.2.2.2.1 s.2.2.2.2.2.1 s.2.2.2.2.2.2)
    (I := fun s => ∃ a i : Nat, i ≤ q.length ∧ a ≤ n ∧ s = (rul ws cs n, t'.ss, none, (a : Int), q, (q.length : Int), (i : Int)) ∧ t'.Lines a (q.drop i))
    (m := fun s => q.length - s.2.2.2.2.2.2.toNat) (R := fun z => z = .inl (rul ws cs n, none, (n : Int))) (s0 := (rul ws cs n, t'.ss, none, 0, q, (q.length : Int), 0))
    (by
      rintro s ⟨a, i, i1, i2, rfl, i3⟩
      dsimp only
      unfold law23_FillFits_L23
      by_cases hi : i < q.length
      · rw [List.drop_eq_getElem_cons hi] at i3
        obtain ⟨e, he1, he2, he3⟩ := i3
        have hlt := he1.lt
        obtain ⟨k1, k2⟩ := wide_end ht2 (by rw [en2, ew2]; omega) (by rw [en2]; exact hlast (by omega)) he1
        have hl2' := ht2.len
        have k3 : (t'.s e == 2) = true := by rw [k1]; rfl
        have k4 : (t'.s e == 0) = false := by rw [k1]; rfl
        refine Post.brT (decide_eq_true (by omega)) (Post.bnd (idx_get (k := i) rfl hi) ?_)
        rw [he2, k3, k4]
        refine Post.bnd (box0 _) ?_
        dsimp only
        rw [wrap_succ (k := a) (by omega)]
        refine Post.altL (count (L := fun s : (List Int × List Int) × List Int × (Option (Int × ByteArray × Int)) × Int × Ln × Int × (List Ln) × Int × Int => law23_FillFits_L26 s.1 s.2.1 s.2.2.1 s.2.2.2.1 s.2.2.2.2.1 s.2.2.2.2.2.1 s.2.2.2.2.2.2.1 s.2.2.2.2.2.2.2.1 s.2.2.2.2.2.2.2.2) (e - a - 1)
          (fun k => (rul ws cs n, t'.ss, none, (a : Int), ((a : Int), (e : Int), true, false), ((a + 1 + k : Nat) : Int), q, (q.length : Int), (i : Int))) (r := Sum.inl (rul ws cs n, t'.ss, none, (a : Int), ((a : Int), (e : Int), true, false), q, (q.length : Int), (i : Int))) rfl (fun k hk => ?_) ?_) ?_
        · dsimp only
          unfold law23_FillFits_L26
          refine Post.bnd (box0 _) (Post.brT (decide_eq_true (by dsimp only; omega)) (Post.idx 0 (a + 1 + k) rfl (by omega) (Post.brF ?_ (Post.pure ?_))))
          · have := k2 (a + 1 + k) (by omega) (by omega)
            simpa using this
          · rw [wrap_succ (k := a + 1 + k) (by omega)]; rfl
        · dsimp only
          unfold law23_FillFits_L26
          exact Post.bnd (box0 _) (Post.brF (decide_eq_false (by dsimp only; omega)) (Post.pure rfl))
        · dsimp only
          refine Post.bnd (box0 _) (Post.brF (by rfl) (Post.bnd (box0 _) (Post.brF (by simp) (Post.bnd (box0 _) (Post.pure ?_)))))
          rw [wrap_succ (k := i) (by omega)]
          exact ⟨⟨e, i + 1, by omega, by omega, rfl, he3⟩, by dsimp only; omega⟩
      · have hi : i = q.length := by omega
        subst hi
        rw [List.drop_length] at i3
        have i3 : a = t'.n := i3
        have i3 : a = n := i3.trans en2
        subst i3
        exact Post.brF (decide_eq_false (by omega)) (Post.pure rfl))
    ⟨0, 0, by omega, by omega, rfl, hq2⟩
  subst h
  exact Post.altL hy (Post.brT rfl (Post.bnd (count_F _ _ _) (Post.pure (by simp))))

theorem fillLines_all (x : Tys.I [.sl (.int .u8), .sl (.int .u8), .sl (.int .u8), .int .u8]) (h : WfAll [.sl (.int .u8), .sl (.int .u8), .sl (.int .u8), .int .u8] x) (hb : bulkAll [.sl (.int .u8), .sl (.int .u8), .sl (.int .u8), .int .u8] x ≤ 1048576) : law23_FillLines_F x.1 x.2.1 x.2.2.1 x.2.2.2.1 = some true := by
  simp only [bulkAll, bulk] at hb
  exact fillLines_F _ _ _ _ (by omega) (by omega) (fun n hn => wf_u8 (h.1.2 n hn)) (fun n hn => wf_u8 (h.2.2.1.2 n hn)) (wf_u8 h.2.2.2.1)
theorem fillFits_all (x : Tys.I [.sl (.int .u8), .sl (.int .u8), .sl (.int .u8), .int .u8]) (h : WfAll [.sl (.int .u8), .sl (.int .u8), .sl (.int .u8), .int .u8] x) (hb : bulkAll [.sl (.int .u8), .sl (.int .u8), .sl (.int .u8), .int .u8] x ≤ 1048576) : law23_FillFits_F x.1 x.2.1 x.2.2.1 x.2.2.2.1 = some true := by
  simp only [bulkAll, bulk] at hb
  exact fillFits_F _ _ _ _ (by omega) (by omega) (fun n hn => wf_u8 (h.1.2 n hn)) (fun n hn => wf_u8 (h.2.2.1.2 n hn)) (wf_u8 h.2.2.2.1)

end Go.Proofs.Ytafomgonecamlaa
