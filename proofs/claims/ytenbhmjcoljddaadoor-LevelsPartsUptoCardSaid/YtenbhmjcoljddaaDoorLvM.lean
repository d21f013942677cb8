/-
  The sequences of a paragraph are as they should be; the levels of a paragraph.
-/
import Derived.Test.YtenbhmjcoljddaaDoorLvL
namespace Go.Proofs.YtenbhmjcoljddaaDoor
set_option linter.all false
open Ex (Chain fs ls Pg)

/-- places that rise -/
def Inc : Nat → List Int → Nat → Prop
  | a, [], b => a ≤ b
  | a, x :: r, b => ∃ q : Nat, x = (q : Int) ∧ a ≤ q ∧ q < b ∧ Inc (q + 1) r b
theorem Inc.le : ∀ {l : List Int} {a b : Nat}, Inc a l b → a + l.length ≤ b
  | [], _, _, h => h
  | x :: r, a, b, ⟨q, _, h1, _, h2⟩ => by have := h2.le; simp only [List.length_cons]; omega
theorem Inc.at_ : ∀ {l : List Int} {a b : Nat}, Inc a l b → ∀ k, k < l.length → ∃ q : Nat, l.getD k 0 = (q : Int) ∧ a ≤ q ∧ q < b
  | [], _, _, _, k, hk => by cases hk
  | x :: r, a, b, ⟨q, e, h1, h3, h2⟩, k, hk => by
    cases k with
    | zero => exact ⟨q, e, h1, h3⟩
    | succ k =>
      obtain ⟨p, g1, g2, g3⟩ := h2.at_ k (by simpa using hk)
      exact ⟨p, by simpa using g1, by omega, g3⟩
theorem Inc.mono : ∀ {l : List Int} {a b c : Nat}, Inc a l b → b ≤ c → Inc a l c
  | [], _, _, _, h, hc => Nat.le_trans h hc
  | x :: r, a, b, c, ⟨q, e, h1, h3, h2⟩, hc => ⟨q, e, h1, by omega, h2.mono hc⟩
theorem Inc.app : ∀ {l m : List Int} {a b c d : Nat}, Inc a l b → Inc c m d → b ≤ c → Inc a (l ++ m) d
  | [], m, a, b, c, d, h, g, hb => by
    have h : a ≤ b := h
    cases m with
    | nil => exact Nat.le_trans (Nat.le_trans h hb) g
    | cons x r => obtain ⟨q, e, g1, g2⟩ := g; exact ⟨q, e, by omega, g2⟩
  | x :: r, m, a, b, c, d, ⟨q, e, h1, h3, h2⟩, g, hb => by
    have := g.le
    exact ⟨q, e, h1, by omega, h2.app g hb⟩
theorem chain_inc {lv : Nat → Int} : ∀ {r s : List Int} {a b : Nat}, Chain lv a (r ++ s) b → r ≠ [] → ∃ f l : Nat, r.getD 0 0 = (f : Int) ∧ r.getD (r.length - 1) 0 = (l : Int) ∧ Inc f r (l + 1) ∧ Chain lv (l + 1) s b
  | [], _, _, _, _, h => absurd rfl h
  | [p], s, a, b, h, _ => by
    obtain ⟨q, rfl, h1, h2, h3, h4⟩ := h
    exact ⟨q, q, rfl, rfl, ⟨q, rfl, Nat.le_refl _, by omega, Nat.le_refl _⟩, h4⟩
  | p :: q :: r, s, a, b, h, _ => by
    obtain ⟨x, rfl, h1, h2, h3, h4⟩ := h
    obtain ⟨f, l, g1, g2, g3, g4⟩ := chain_inc (r := q :: r) (s := s) h4 (by simp)
    obtain ⟨y, e, k1, k2, k3⟩ := g3
    have hy : x < y := by
      obtain ⟨z, e2, k4, _⟩ := h4
      have : (y : Int) = (z : Int) := e.symm.trans e2
      omega
    have hle := k3.le
    exact ⟨x, l, rfl, by simpa using g2, ⟨x, rfl, Nat.le_refl _, by omega, ⟨y, e, hy, k2, k3⟩⟩, g4⟩
theorem run_inc {lv : Nat → Int} : ∀ {rs : List (List Int)} {a b : Nat}, Chain lv a rs.flatten b → (∀ r ∈ rs, r ≠ []) → ∀ k, k < rs.length → Inc (fs rs k) (rs.getD k []) (ls rs k + 1)
  | [], _, _, _, _, k, hk => by cases hk
  | r :: rs, a, b, h, hne, k, hk => by
    have h : Chain lv a (r ++ rs.flatten) b := h
    obtain ⟨f, l, g1, g2, g3, g4⟩ := chain_inc h (hne r (by simp))
    cases k with
    | zero =>
      have ef : fs (r :: rs) 0 = f := by unfold fs; rw [show (r :: rs).getD 0 [] = r from rfl, g1]; rfl
      have el : ls (r :: rs) 0 = l := by unfold ls; rw [show (r :: rs).getD 0 [] = r from rfl, g2]; rfl
      rw [ef, el]
      exact g3
    | succ k => exact run_inc g4 (fun r h => hne r (List.mem_cons_of_mem _ h)) k (by simpa using hk)
theorem pg_inc {p : Pg} (h : p.Ok) {k : Nat} (hk : k < p.R) : Inc (fs p.rs k) (p.rs.getD k []) (ls p.rs k + 1) := run_inc (Ex.runsOf_good p.lv h.far p.n).1 (Ex.runsOf_ne p.lv p.n) k hk
theorem cat_inc {p : Pg} (h : p.Ok) : ∀ (d k : Nat), k < p.R → Inc (fs p.rs k) (p.cat (k :: p.T d k)) p.n
  | 0, k, hk => by
    have := (h.run hk).hi
    rw [show p.T 0 k = [] from rfl, p.cat_cons, show p.cat [] = [] from rfl, List.append_nil]
    exact (pg_inc h hk).mono (by omega)
  | d + 1, k, hk => by
    have hi := (h.run hk).hi
    rcases h.nx hk with e | ⟨j, e, h1, h2⟩
    · rw [Pg.T_end e, p.cat_cons, show p.cat [] = [] from rfl, List.append_nil]
      exact (pg_inc h hk).mono (by omega)
    · rw [Pg.T_more e, p.cat_cons]
      exact (pg_inc h hk).app (cat_inc h d j h2) (h.rise h1 h2)
theorem cl_two (x : Int) : Pg.cl x = 0 ∨ Pg.cl x = 1 := by
  unfold Ex.Pg.cl
  by_cases h : x > 0
  · rw [if_pos h]
    by_cases g : x.tmod 2 = 1
    · rw [if_pos g]; exact .inr rfl
    · rw [if_neg g]; exact .inl rfl
  · rw [if_neg h]; exact .inl rfl
theorem sqs_good {cs : List Int} {l : Int} (hl : 0 ≤ l ∧ l ≤ 1) (hn : cs.length ≤ 2097152) : ∀ s ∈ sqs cs l, Good cs.length s ∧ l ≤ s.2.1 ∧ (s.2.2.2 = 0 ∨ s.2.2.2 = 1) := by
  intro s hs
  have h := pg_ok hl hn
  obtain ⟨k, hk, rfl⟩ := Pg.Sp_mem (pg cs l) _ s hs
  have hi := cat_inc h (pg cs l).R k hk
  have hle := hi.le
  have hgf := (h.run hk).gf
  have hf := (Ex.lvs_facts cs hl (fs (pg cs l).rs k)).2.1 hgf
  have e1 : ((pg cs l).sq k).1 = (pg cs l).cat (k :: (pg cs l).T (pg cs l).R k) := rfl
  have e2 : ((pg cs l).sq k).2.1 = Ex.lvs cs l (fs (pg cs l).rs k) := rfl
  have e3 : (pg cs l).n = cs.length := rfl
  refine ⟨⟨?_, fun i hi2 => ?_, cl_two _, ?_⟩, ?_, cl_two _⟩
  · rw [e1]; omega
  · rw [e1] at hi2 ⊢
    obtain ⟨q, q1, _, q2⟩ := hi.at_ i hi2
    exact ⟨q, q1, by omega⟩
  · rw [e2]; omega
  · rw [e2]; exact hf.1
theorem sqs_len {cs : List Int} {l : Int} (hl : 0 ≤ l ∧ l ≤ 1) (hn : cs.length ≤ 2097152) : (sqs cs l).length ≤ cs.length := Nat.le_trans ((pg cs l).Sp_len _).2 (pg_ok hl hn).few

theorem fin_F (rs cs classes : List Int) {n : Nat} (h1 : rs.length = n) (h2 : classes.length = n) (h3 : cs.length = n) (L : List Sq) (hL : L.length ≤ 4194304) (hg : ∀ s ∈ L, Good n s) : ∀ (d k : Nat) (lv : List Int), L.length = k + d → lv.length = n →
    loopW (fun t : List Int × List Int × List Int × List Int × List Sq × Int × Int => (levels_Paragraph_L5 t.1 t.2.1 t.2.2.1 t.2.2.2.1 t.2.2.2.2.1 t.2.2.2.2.2.1 t.2.2.2.2.2.2).run) (rs, cs, lv, classes, L, (L.length : Int), (k : Int)) = some (fin cs (rsv rs classes) (L.drop k) lv)
  | 0, k, lv, hd, hlv => by
    rw [List.drop_of_length_le (by omega)]
    refine loopW_done (Post.run ?_)
    dsimp only
    unfold levels_Paragraph_L5
    exact Post.brF (by rw [decide_eq_false_iff_not]; omega) (Post.pure rfl)
  | d + 1, k, lv, hd, hlv => by
    have hk : k < L.length := by omega
    have hm : L[k] ∈ L := List.getElem_mem hk
    have hgk := hg _ hm
    rw [List.drop_eq_getElem_cons hk]
    unfold fin
    refine loopW_next (Post.run ?_) (fin_F rs cs classes h1 h2 h3 L hL hg d (k + 1) (inner cs L[k] (rsv rs classes L[k]) L[k].1.length lv) (by omega) (by rw [inner_len]; exact hlv))
    dsimp only
    unfold levels_Paragraph_L5
    refine Post.brT (by rw [decide_eq_true_eq]; omega) (Post.bnd (idx_get (k := k) rfl hk) (Nu.post_box (Post.bnd (lresolve_F rs classes L[k] h1 h2 hgk) (Post.bnd (inner_F rs cs lv classes L[k] L _ _ hlv h3 hgk (rsv_len _ _ _)) (Post.pure ?_)))))
    dsimp only
    rw [wrap_succ (by omega)]
theorem paragraph_F (rs cs : List Int) {l : Int} (hl : 0 ≤ l ∧ l ≤ 1) (h : rs.length = cs.length) (hn : cs.length ≤ 2097152) : levels_Paragraph_F rs cs l = some (par rs cs l) := by
  unfold levels_Paragraph_F levels_Paragraph_T
  have hs := sqs_len hl hn
  refine Post.run (Post.brF (by rw [h]; simp) (Post.bnd (Ex.resolve_F cs hl (by omega)) (Post.bnd (seqs_at cs hl hn) (Post.bnd (fin_F rs cs (tab cs.length (Ex.cls cs l)) h (tab_len _ _) rfl (sqs cs l) (by omega) (fun s hs => (sqs_good hl hn s hs).1) (sqs cs l).length 0 (tab cs.length (Ex.lvs cs l)) (by omega) (tab_len _ _)) (Post.pure ?_)))))
  rfl

/-! ### no level is below the paragraph's -/
def AtLeast (l : Int) (lv : List Int) : Prop := ∀ i, i < lv.length → lv.getD i 0 = -1 ∨ l ≤ lv.getD i 0
theorem atLeast_set {l x : Int} {lv : List Int} {j : Nat} (h : AtLeast l lv) (hx : l ≤ x) : AtLeast l (lv.set j x) := fun i hi => by
  rw [List.length_set] at hi
  have := h i hi
  by_cases e : j = i
  · subst e
    rw [show (lv.set j x).getD j 0 = x by simp [List.getD, hi]]
    exact .inr hx
  · rw [show (lv.set j x).getD i 0 = lv.getD i 0 by simp [List.getD, List.getElem?_set, e]]
    exact this
theorem atLeast_inner {l : Int} (cs : List Int) {s : Sq} (c : List Int) (hl : l ≤ s.2.1) : ∀ (k : Nat) {lv : List Int}, AtLeast l lv → AtLeast l (inner cs s c k lv)
  | 0, _, h => h
  | k + 1, lv, h => by
    rw [inner_succ]
    split
    · exact atLeast_inner cs c hl k h
    · exact atLeast_set (atLeast_inner cs c hl k h) (Int.le_trans hl (imp_ge _ _))
theorem atLeast_fin {l : Int} (cs : List Int) (f : Sq → List Int) : ∀ (L : List Sq) {lv : List Int}, (∀ s ∈ L, l ≤ s.2.1) → AtLeast l lv → AtLeast l (fin cs f L lv)
  | [], _, _, h => h
  | s :: r, lv, hL, h => by
    unfold fin
    exact atLeast_fin cs f r (fun s hs => hL s (List.mem_cons_of_mem _ hs)) (atLeast_inner cs _ (hL s List.mem_cons_self) _ h)
theorem par_least (rs cs : List Int) {l : Int} (hl : 0 ≤ l ∧ l ≤ 1) (hn : cs.length ≤ 2097152) : AtLeast l (par rs cs l) := by
  unfold par
  refine atLeast_fin cs _ _ (fun s hs => (sqs_good hl hn s hs).2.1) fun i hi => ?_
  rw [tab_len] at hi
  rw [tab_getD _ _ hi]
  by_cases e : Ex.lvs cs l i = -1
  · exact .inl e
  · exact .inr ((Ex.lvs_facts cs hl i).2.1 e).1

end Go.Proofs.YtenbhmjcoljddaaDoor
