import Derived.Test.YtenbhmjcoljddaaGreatDoorLvZ
import Derived.Test.YtenbhmjcoljddaaGreatDoorLvER
import Derived.Test.YtenbhmjcoljddaaGreatDoorLvWR
import Derived.Test.YtenbhmjcoljddaaGreatDoorLvNR
namespace Go.Proofs.YtenbhmjcoljddaaGreatDoor
set_option linter.all false
set_option linter.all false
theorem rimp_F {c l : Int} (hl : 0 ≤ l ∧ l ≤ 125) : ref14_Implicit_F c l = some (imp c l) := by
 unfold ref14_Implicit_F ref14_Implicit_T imp
 have w1 : IntKind.i64.wrap (l + 1) = l + 1 := wrap64 (by omega) (by omega)
 have w2 : IntKind.i64.wrap (l + 2) = l + 2 := wrap64 (by omega) (by omega)
 rw [w1, w2]
 have ht : l.tmod 2 = l % 2 := Int.tmod_eq_emod_of_nonneg hl.1
 rw [ht]
 refine Post.run (Post.br (fun h => ?_) (fun h => ?_))
 ·rw [if_pos (by simpa using h)]
  refine Post.br (fun g => Post.pure (by rw [if_pos (by simpa using g)])) (fun g => Post.br (fun k => Post.pure ?_) (fun k => Post.br (fun j => Post.pure ?_) (fun j => Post.pure ?_)))
  ·simp at g k; subst k; rfl
  ·simp at g k j; subst j; rfl
  ·simp at g k j; rw [if_neg g, if_neg j, if_neg k, Int.add_zero]
 ·rw [if_neg (by simpa using h)]
  refine Post.br (fun g => Post.pure (by rw [if_pos (by simpa using g)])) (fun g => Post.br (fun k => Post.pure ?_) (fun k => Post.br (fun j => Post.pure ?_) (fun j => Post.pure ?_)))
  ·simp at g k; subst k; rfl
  ·simp at g k j; subst j; rfl
  ·simp at g k j; rw [if_neg g, if_neg j, if_neg k, Int.add_zero]
abbrev A9 := List Int × List Int × List Int × List Int × Sq × List Int × List Int × List Sq × Int × Int × List Int × Int × Int
theorem want9 (rs cs out over : List Int) (s : Sq) (L : List Sq) (x y : Int) {n : Nat} (h1 : rs.length = n) (h2 : over.length = n) (hg : Good n s) :
  loopW (fun t : A9 => (law18_Want_L9 t.1 t.2.1 t.2.2.1 t.2.2.2.1 t.2.2.2.2.1 t.2.2.2.2.2.1 t.2.2.2.2.2.2.1 t.2.2.2.2.2.2.2.1 t.2.2.2.2.2.2.2.2.1 t.2.2.2.2.2.2.2.2.2.1 t.2.2.2.2.2.2.2.2.2.2.1 t.2.2.2.2.2.2.2.2.2.2.2.1 t.2.2.2.2.2.2.2.2.2.2.2.2).run) (rs, cs, out, over, s, [], [], L, x, y, s.1, (s.1.length : Int), 0) = some (rs, cs, out, over, s, rn over s.1, rn rs s.1, L, x, y) := by
 have hm := hg.few
 refine count (L := fun t : A9 => law18_Want_L9 t.1 t.2.1 t.2.2.1 t.2.2.2.1 t.2.2.2.2.1 t.2.2.2.2.2.1 t.2.2.2.2.2.2.1 t.2.2.2.2.2.2.2.1 t.2.2.2.2.2.2.2.2.1 t.2.2.2.2.2.2.2.2.2.1 t.2.2.2.2.2.2.2.2.2.2.1 t.2.2.2.2.2.2.2.2.2.2.2.1 t.2.2.2.2.2.2.2.2.2.2.2.2) s.1.length
  (fun k => (rs, cs, out, over, s, tab k (fun k => over.getD (s.1.getD k 0).toNat 0), tab k (fun k => rs.getD (s.1.getD k 0).toNat 0), L, x, y, s.1, (s.1.length : Int), (k : Int))) rfl (fun k hk => ?_) ?_
 ·dsimp only
  unfold law18_Want_L9
  obtain ⟨q, hq, hqn⟩ := hg.pl k hk
  refine Post.brT (by rw [decide_eq_true_eq]; omega) (Post.idx 0 k rfl hk ?_)
  rw [hq]
  have e1 : over.getD q 0 = (fun k => over.getD (s.1.getD k 0).toNat 0) k := by dsimp only; rw [hq]; rfl
  have e2 : rs.getD q 0 = (fun k => rs.getD (s.1.getD k 0).toNat 0) k := by dsimp only; rw [hq]; rfl
  refine Post.idx 0 q rfl (by omega) (Post.bnd (app_eq (by rw [tab_len]; simp; omega)) (Post.idx 0 q rfl (by omega) (Post.bnd (app_eq (by rw [tab_len]; simp; omega)) (Post.pure ?_))))
  rw [e1, e2, tab_succ, tab_succ, wrap_succ (by omega)]
 ·dsimp only
  unfold law18_Want_L9
  exact Post.brF (by rw [decide_eq_false_iff_not]; omega) (Post.pure rfl)
abbrev A17 := List Int × List Int × List Int × List Int × Sq × List Int × List Int × List Int × List Int × List Sq × Int × Int × Int × Int
theorem want17 (rs cs out over first sc w : List Int) (s : Sq) (L : List Sq) (x y : Int) (hw : w.length ≤ 4194304) (hc : Nu.Cls w) :
  loopW (fun t : A17 => (law18_Want_L17 t.1 t.2.1 t.2.2.1 t.2.2.2.1 t.2.2.2.2.1 t.2.2.2.2.2.1 t.2.2.2.2.2.2.1 t.2.2.2.2.2.2.2.1 t.2.2.2.2.2.2.2.2.1 t.2.2.2.2.2.2.2.2.2.1 t.2.2.2.2.2.2.2.2.2.2.1 t.2.2.2.2.2.2.2.2.2.2.2.1 t.2.2.2.2.2.2.2.2.2.2.2.2.1 t.2.2.2.2.2.2.2.2.2.2.2.2.2).run) (rs, cs, out, over, s, first, sc, w, [], L, x, y, (w.length : Int), 0) = some (rs, cs, out, over, s, first, sc, w, w, L, x, y) := by
 have hr : (rs, cs, out, over, s, first, sc, w, w, L, x, y) = (rs, cs, out, over, s, first, sc, w, tab w.length (fun i => w.getD i 0), L, x, y) := by rw [← tab_self]
 rw [hr]
 refine count (L := fun t : A17 => law18_Want_L17 t.1 t.2.1 t.2.2.1 t.2.2.2.1 t.2.2.2.2.1 t.2.2.2.2.2.1 t.2.2.2.2.2.2.1 t.2.2.2.2.2.2.2.1 t.2.2.2.2.2.2.2.2.1 t.2.2.2.2.2.2.2.2.2.1 t.2.2.2.2.2.2.2.2.2.2.1 t.2.2.2.2.2.2.2.2.2.2.2.1 t.2.2.2.2.2.2.2.2.2.2.2.2.1 t.2.2.2.2.2.2.2.2.2.2.2.2.2) w.length
  (fun k => (rs, cs, out, over, s, first, sc, w, tab k (fun i => w.getD i 0), L, x, y, (w.length : Int), (k : Int))) rfl (fun k hk => ?_) ?_
 ·dsimp only
  unfold law18_Want_L17
  have := hc k
  refine Post.brT (by rw [decide_eq_true_eq]; omega) (Post.idx 0 k rfl hk (Post.bnd (app_eq (by rw [tab_len]; simp; omega)) (Post.pure ?_)))
  rw [wrapU8 (by omega) (by omega), wrap_succ (by omega), ← tab_succ]
 ·dsimp only
  unfold law18_Want_L17
  exact Post.brF (by rw [decide_eq_false_iff_not]; omega) (Post.pure rfl)
abbrev A24 := List Int × List Int × List Int × List Int × Sq × List Int × List Sq × Int × Int × List Int × Int × Int
theorem want24 (rs cs lv over : List Int) (s : Sq) (L : List Sq) (a b : Int) {n : Nat} (h1 : lv.length = n) (h2 : cs.length = n) (hg : Good n s) {c : List Int} (hc : c.length = s.1.length) :
  loopW (fun t : A24 => (law18_Want_L24 t.1 t.2.1 t.2.2.1 t.2.2.2.1 t.2.2.2.2.1 t.2.2.2.2.2.1 t.2.2.2.2.2.2.1 t.2.2.2.2.2.2.2.1 t.2.2.2.2.2.2.2.2.1 t.2.2.2.2.2.2.2.2.2.1 t.2.2.2.2.2.2.2.2.2.2.1 t.2.2.2.2.2.2.2.2.2.2.2).run) (rs, cs, lv, over, s, c, L, a, b, s.1, (s.1.length : Int), 0) = some (rs, cs, inner cs s c s.1.length lv, over, L, a, b) := by
 have hm := hg.few
 refine count (L := fun t : A24 => law18_Want_L24 t.1 t.2.1 t.2.2.1 t.2.2.2.1 t.2.2.2.2.1 t.2.2.2.2.2.1 t.2.2.2.2.2.2.1 t.2.2.2.2.2.2.2.1 t.2.2.2.2.2.2.2.2.1 t.2.2.2.2.2.2.2.2.2.1 t.2.2.2.2.2.2.2.2.2.2.1 t.2.2.2.2.2.2.2.2.2.2.2) s.1.length
  (fun k => (rs, cs, inner cs s c k lv, over, s, c, L, a, b, s.1, (s.1.length : Int), (k : Int))) rfl (fun k hk => ?_) ?_
 ·dsimp only
  unfold law18_Want_L24
  obtain ⟨q, hq, hqn⟩ := hg.pl k hk
  have hpl : pl s k = q := by unfold pl; rw [hq]; rfl
  refine Post.brT (by rw [decide_eq_true_eq]; omega) (Post.idx 0 k rfl hk ?_)
  rw [hq]
  refine Post.idx 0 q rfl (by omega) (Post.br (fun e => ?_) (fun e => ?_))
  ·rw [bne_iff_ne] at e
   refine Post.idx 0 k rfl (by omega) (Nu.post_box (Post.bnd (rimp_F hg.lv) (Post.idx 0 q rfl (by rw [inner_len]; omega) (Post.pure ?_))))
   rw [wrap_succ (by omega), inner_succ, hpl, if_neg e, toNat_nat]
  ·rw [bne_eq_false_iff_eq] at e
   refine Post.pure ?_
   rw [wrap_succ (by omega), inner_succ, hpl, if_pos e]
 ·dsimp only
  unfold law18_Want_L24
  exact Post.brF (by rw [decide_eq_false_iff_not]; omega) (Post.pure rfl)
theorem rn_rg {classes : List Int} (hc : ∀ c ∈ classes, 0 ≤ c ∧ c ≤ 22) (ps : List Int) : Wk.Rg fun i => (rn classes ps).getD i 0 := by
 have hd : ∀ q, 0 ≤ classes.getD q 0 ∧ classes.getD q 0 ≤ 22 := fun q => by
  by_cases h : q < classes.length
  ·rw [show classes.getD q 0 = classes[q] by simp [List.getD, h]]
   exact hc _ (List.getElem_mem h)
  ·rw [getD_len (by omega)]
   decide
 intro i
 dsimp only
 unfold rn
 by_cases h : i < ps.length
 ·rw [tab_getD _ _ h]
  exact hd _
 ·rw [getD_len (by rw [tab_len]; omega)]
  decide
theorem wk_cls {classes : List Int} (hc : ∀ c ∈ classes, 0 ≤ c ∧ c ≤ 22) {s : Sq} (hs : s.2.2.1 = 0 ∨ s.2.2.1 = 1) : Nu.Cls (wk classes s) := fun k => by
 have h := (rn_rg hc s.1).W (n := s.1.length) hs
 unfold wk
 by_cases hk : k < s.1.length
 ·rw [tab_getD _ _ hk]
  exact h k
 ·rw [getD_len (by rw [tab_len]; omega)]
  decide
theorem want_fin (rs cs classes : List Int) {n : Nat} (h1 : rs.length = n) (h2 : classes.length = n) (h3 : cs.length = n) (w : ∀ x ∈ rs, -2147483648 ≤ x ∧ x ≤ 2147483647) (hc : ∀ c ∈ classes, 0 ≤ c ∧ c ≤ 22) (L : List Sq) (hL : L.length ≤ 4194304) (hg : ∀ s ∈ L, Good n s ∧ (s.2.2.2 = 0 ∨ s.2.2.2 = 1)) : ∀ (d k : Nat) (lv : List Int), L.length = k + d → lv.length = n →
  loopW (fun t : List Int × List Int × List Int × List Int × List Sq × Int × Int => (law18_Want_L4 t.1 t.2.1 t.2.2.1 t.2.2.2.1 t.2.2.2.2.1 t.2.2.2.2.2.1 t.2.2.2.2.2.2).run) (rs, cs, lv, classes, L, (L.length : Int), (k : Int)) = some (fin cs (rsv rs classes) (L.drop k) lv)
 | 0, k, lv, hd, hlv => by
  rw [List.drop_of_length_le (by omega)]
  refine loopW_done (Post.run ?_)
  dsimp only
  unfold law18_Want_L4
  exact Post.brF (by rw [decide_eq_false_iff_not]; omega) (Post.pure rfl)
 | d + 1, k, lv, hd, hlv => by
  have hk : k < L.length := by omega
  have hm : L[k] ∈ L := List.getElem_mem hk
  obtain ⟨hgk, heos⟩ := hg _ hm
  rw [List.drop_eq_getElem_cons hk]
  unfold fin
  refine loopW_next (Post.run ?_) (want_fin rs cs classes h1 h2 h3 w hc L hL hg d (k + 1) (inner cs L[k] (rsv rs classes L[k]) L[k].1.length lv) (by omega) (by rw [inner_len]; exact hlv))
  dsimp only
  unfold law18_Want_L4
  refine Post.brT (by rw [decide_eq_true_eq]; omega) (Post.bnd (idx_get (k := k) rfl hk) ?_)
  generalize L[k] = s at *
  have hmm := hgk.few
  have ws : IntKind.i64.wrap s.2.2.1 = s.2.2.1 := wrap64 (by rcases hgk.sos with h | h <;> omega) (by rcases hgk.sos with h | h <;> omega)
  have we : IntKind.i64.wrap s.2.2.2 = s.2.2.2 := wrap64 (by rcases heos with h | h <;> omega) (by rcases heos with h | h <;> omega)
  have hself : rn classes s.1 = tab s.1.length (fun i => (rn classes s.1).getD i 0) := by
   have := tab_self 0 (rn classes s.1)
   rw [rn_len] at this
   exact this
  have hweak : ref14_Weak_F (rn classes s.1) (IntKind.i64.wrap s.2.2.1) = some (wk classes s) := by
   have := Wk.weak_F s.2.2.1 hgk.sos (fun i => (rn classes s.1).getD i 0) s.1.length (by omega)
   rw [← hself] at this
   rw [ws]
   exact this
  have hcl := wk_cls hc hgk.sos
  have hwl : (wk classes s).length = s.1.length := tab_len _ _
  obtain ⟨r, wss, lr, _, hr, hw, hrr⟩ := Nu.brackets_both (rn rs s.1) (rn classes s.1) (wk classes s) s.2.2.1 s.2.1 hgk.sos hgk.lv.1 (n := s.1.length) (rn_len _ _) (rn_len _ _) hwl (by omega) (fun x hx => by
   unfold rn tab at hx
   obtain ⟨i, hi, rfl⟩ := List.mem_map.1 hx
   obtain ⟨q, e, hq⟩ := hgk.pl i (List.mem_range.1 hi)
   rw [e, toNat_nat, show rs.getD q 0 = rs[q]'(by omega) by simp [List.getD, show q < rs.length by omega]]
   exact w _ (List.getElem_mem _))
  obtain ⟨hb, hbl⟩ := br_F (rn rs s.1) (rn classes s.1) (wk classes s) s.2.1 s.2.2.1 (n := s.1.length) (rn_len _ _) (rn_len _ _) hwl hmm
  rw [hr] at hb
  have hbr : r = br (rn rs s.1) (rn classes s.1) (wk classes s) s.2.1 s.2.2.1 := Option.some.inj hb
  subst hbr
  have hrest := Nu.rrest_F (br (rn rs s.1) (rn classes s.1) (wk classes s) s.2.1 s.2.2.1) s.2.1 s.2.2.1 s.2.2.2 hgk.lv.1 (by omega)
  rw [hbl] at hrest
  have h9 := want9 rs cs lv classes s L (L.length : Int) (k : Int) h1 h2 hgk
  have h17 := want17 rs cs lv classes (rn classes s.1) (rn rs s.1) (wk classes s) s L (L.length : Int) (k : Int) (by omega) hcl
  have h24 := want24 rs cs lv classes s L (L.length : Int) (k : Int) hlv h3 hgk (rsv_len rs classes s)
  refine Nu.post_box (Post.bnd h9 (Nu.post_box (Post.bnd hweak (Post.bnd h17 (Nu.post_box (Nu.post_box (Post.bnd hw ?_)))))))
  dsimp only
  rw [ws]
  refine Post.bnd hrr (Nu.post_box (Nu.post_box (Nu.post_box ?_)))
  rw [ws, we]
  refine Post.bnd hrest (Nu.post_box (Post.bnd h24 (Post.pure ?_)))
  dsimp only
  rw [wrap_succ (by omega)]
theorem ints_F (cs : List Int) (hn : cs.length ≤ 4194304) (hc : ∀ c ∈ cs, 0 ≤ c ∧ c ≤ 22) : law10_Ints_F cs = some cs := Nu.ints_F cs hn fun k => by
 by_cases h : k < cs.length
 ·rw [show cs.getD k 0 = cs[k] by simp [List.getD, h]]
  exact hc _ (List.getElem_mem h)
 ·rw [getD_len (by omega)]
  decide
theorem want_F (rs cs : List Int) {l : Int} (hl : 0 ≤ l ∧ l ≤ 1) (h : rs.length = cs.length) (hn : cs.length ≤ 2097152) (w : ∀ x ∈ rs, -2147483648 ≤ x ∧ x ≤ 2147483647) (hc : ∀ c ∈ cs, 0 ≤ c ∧ c ≤ 22) : law18_Want_F rs cs l = some (par rs cs l) := by
 unfold law18_Want_F law18_Want_T
 have hs := sqs_len hl hn
 have hcl : ∀ c ∈ tab cs.length (Ex.cls cs l), 0 ≤ c ∧ c ≤ 22 := fun c hc' => by
  unfold tab at hc'
  obtain ⟨i, hi, rfl⟩ := List.mem_map.1 hc'
  exact Ex.cls_range cs hl hc (List.mem_range.1 hi)
 refine Post.run (Post.bnd (ints_F cs (by omega) hc) (Post.bnd (Ex.refResolve_F cs hl (by omega) hc) (Post.bnd (app_eq (by rw [tab_len]; simp; omega)) ?_)))
 rw [List.nil_append]
 refine Post.bnd (seqs_at cs hl hn) (Post.bnd (want_fin rs cs (tab cs.length (Ex.cls cs l)) h (tab_len _ _) rfl w hcl (sqs cs l) (by omega) (fun s hs => ⟨(sqs_good hl hn s hs).1, (sqs_good hl hn s hs).2.2⟩) (sqs cs l).length 0 (tab cs.length (Ex.lvs cs l)) (by omega) (tab_len _ _)) (Post.pure ?_))
 rfl
theorem same_F (xs : List Int) (hn : xs.length ≤ 4194304) : law18_same_F xs xs = some true := by
 unfold law18_same_F law18_same_T
 refine Post.run (Post.brF (by simp) (Post.altL (b := ()) (count (L := fun s : List Int × List Int × Int => law18_same_L4 s.1 s.2.1 s.2.2) xs.length (fun k => (xs, xs, (k : Int))) rfl (fun k hk => ?_) ?_) (Post.pure rfl)))
 ·dsimp only
  unfold law18_same_L4
  exact Post.brT (by rw [decide_eq_true_eq]; omega) (Post.idx 0 k rfl hk (Post.idx 0 k rfl hk (Post.brF (by simp) (Post.pure (by rw [wrap_succ (by omega)])))))
 ·dsimp only
  unfold law18_same_L4
  exact Post.brF (by rw [decide_eq_false_iff_not]; omega) (Post.pure rfl)
end Go.Proofs.YtenbhmjcoljddaaGreatDoor
