import Derived.Test.YtenbhmjcoljddaaGreatDoorLvKa
import Derived.Test.YtenbhmjcoljddaaGreatDoorLvRb
namespace Go.Proofs.YtenbhmjcoljddaaGreatDoor
set_option linter.all false
theorem cl_le (r : Int) : 0 ≤ Bd.finds Bd.bidicT r 0 ∧ Bd.finds Bd.bidicT r 0 ≤ 22 := by
 have hb : (Bd.bidicT.all fun x => decide (0 ≤ x.2.2) && decide (x.2.2 ≤ 22)) = true := by kernel_rfl
 refine Bd.finds_mem Bd.bidicT_sorted r 0 (fun v => 0 ≤ v ∧ v ≤ 22) (by decide) fun x hx => ?_
 have := List.all_eq_true.1 hb x hx
 simp only [Bool.and_eq_true, decide_eq_true_eq] at this
 exact this
theorem cl4_le (rs : List Int) : ∀ c ∈ cl4 rs, 0 ≤ c ∧ c ≤ 22 := fun c hc => by
 unfold cl4 tab at hc
 obtain ⟨i, _, rfl⟩ := List.mem_map.1 hc
 exact cl_le _
theorem of_bad (rs : List Int) {d : Int} (hd : d < 0 ∨ 2 < d) : levels_Of_F rs d = some (([], [], [], []), some (3, ByteArray.mk #[100, 105, 114, 101, 99, 116, 105, 111, 110], d)) := by
 have h := Ex.level_F [] (by decide) d
 rw [if_neg (by omega), if_neg (by omega), if_neg (by omega)] at h
 unfold levels_Of_F levels_Of_T
 exact Post.run (Post.bnd h (Post.brT rfl (Post.pure rfl)))
theorem told_d (v : Int) : law02_Told_F (some (3, ByteArray.mk #[100, 105, 114, 101, 99, 116, 105, 111, 110], v)) 3 (ByteArray.mk #[100, 105, 114, 101, 99, 116, 105, 111, 110]) v = some true := by
 unfold law02_Told_F law02_Told_T
 exact Post.run (Post.brF (by rfl) (Post.bnd (b := (ByteArray.mk #[100, 105, 114, 101, 99, 116, 105, 111, 110], v)) rfl (Post.bnd (b := 3) rfl (Post.brT (by rfl) (Post.brT (by simp) (Post.pure (by simp)))))))
abbrev E0 := Option (Int × ByteArray × Int)
theorem text8 (rs : List Int) (hn : rs.length ≤ 2097152) (w : ∀ x ∈ rs, -2147483648 ≤ x ∧ x ≤ 2147483647) (d : Int) (t : Tx) (e : E0) :
  loopW (fun s : List Int × Int × Tx × E0 × List Int × List Int × Int × Int => (law18_LevelsText_L8 s.1 s.2.1 s.2.2.1 s.2.2.2.1 s.2.2.2.2.1 s.2.2.2.2.2.1 s.2.2.2.2.2.2.1 s.2.2.2.2.2.2.2).run) (rs, d, t, e, [], rs, (rs.length : Int), 0) = some (rs, d, t, e, cl4 rs) := by
 have hl : Bd.bidicT.length ≤ 1000 := of_decide_eq_true Bd.bidicT_len
 refine count (L := fun s : List Int × Int × Tx × E0 × List Int × List Int × Int × Int => law18_LevelsText_L8 s.1 s.2.1 s.2.2.1 s.2.2.2.1 s.2.2.2.2.1 s.2.2.2.2.2.1 s.2.2.2.2.2.2.1 s.2.2.2.2.2.2.2) rs.length
  (fun k => (rs, d, t, e, tab k (fun i => Bd.finds Bd.bidicT (rs.getD i 0) 0), rs, (rs.length : Int), (k : Int))) rfl (fun k hk => ?_) ?_
 ·dsimp only
  unfold law18_LevelsText_L8
  have hm := w (rs.getD k 0) (by
   rw [show rs.getD k 0 = rs[k] by simp [List.getD, hk]]
   exact List.getElem_mem hk)
  have hc := cl_le (rs.getD k 0)
  refine Post.brT (by rw [decide_eq_true_eq]; omega) (Post.idx 0 k rfl hk (Post.bnd Bd.bidi_ref ?_))
  rw [wrap64 (n := rs.getD k 0) (by omega) (by omega)]
  refine Post.bnd (Bd.refFind_F _ _ _ Bd.bidicT_sorted (by omega)) (Post.bnd (app_eq (by rw [tab_len]; simp; omega)) (Post.pure ?_))
  rw [wrapU8 (by omega) (by omega), wrap_succ (by omega), ← tab_succ]
 ·dsimp only
  unfold law18_LevelsText_L8
  exact Post.brF (by rw [decide_eq_false_iff_not]; omega) (Post.pure rfl)
theorem lvo_lent (rs cs : List Int) {n : Nat} (h1 : rs.length = n) (h2 : cs.length = n) (d : Int) {r c : Nat → Int} : ∀ {ps : List P3} {a : Nat}, Pa.Paras r c n a ps n → (lvo rs cs d ps).length + a = n
 | [], a, h => by
  have h : a = n := h
  subst h
  simp [lvo]
 | p :: l, a, h => by
  obtain ⟨han, hnx, hrest⟩ := h
  obtain ⟨b, e2, hab, hbn, e1⟩ := hnx.to_ han
  rw [e2] at hrest
  have ih := lvo_lent rs cs h1 h2 d hrest
  have hl2 : (prt cs p).length = b - a := by rw [show p = ((a : Int), (b : Int), p.2.2) by rw [← e1, ← e2]]; exact prt_len (by omega) (by omega) _
  rw [toNat_nat] at ih
  have : lvo rs cs d (p :: l) = par (prt rs p) (prt cs p) (bs d (prt cs p)) ++ lvo rs cs d l := by simp only [lvo, List.map_cons, List.flatten_cons]
  rw [this, List.length_append, par_len, hl2]
  omega
theorem cut_mid (A Z R : List Int) {a b : Nat} (ha : A.length = a) (hb : b = a + Z.length) {x y : Int} (hx : x = (a : Int)) (hy : y = (b : Int)) : cut (A ++ (Z ++ R)) x y = some Z := by
 rw [cut_drop hx hy (by omega) (by simp only [List.length_append]; omega)]
 subst hb
 subst ha
 rw [← List.append_assoc, List.take_append_of_le_length (by simp only [List.length_append]; omega), List.take_of_length_le (by simp only [List.length_append]; omega), List.drop_append, List.drop_of_length_le (Nat.le_refl _), Nat.sub_self, List.nil_append, List.drop_zero]
abbrev S16 := List Int × Int × Tx × List Int × List P3 × Int × Int
theorem text16 (rs cs : List Int) {n : Nat} (h1 : rs.length = n) (h2 : cs.length = n) (hn : n ≤ 2097152) (w : ∀ x ∈ rs, -2147483648 ≤ x ∧ x ≤ 2147483647) (hcs : ∀ c ∈ cs, 0 ≤ c ∧ c ≤ 22) {d : Int} (hd : 0 ≤ d ∧ d ≤ 2) (ps : List P3) (hps : ps.length ≤ n) (LV : List Int) (hLV : LV.length = n) {r c : Nat → Int} : ∀ (j k a : Nat) (pre : List Int), ps.length = k + j → Pa.Paras r c n a (ps.drop k) n → LV = pre ++ lvo rs cs d (ps.drop k) → pre.length = a →
  loopW (fun s : S16 => (law18_LevelsText_L16 s.1 s.2.1 s.2.2.1 s.2.2.2.1 s.2.2.2.2.1 s.2.2.2.2.2.1 s.2.2.2.2.2.2).run) (rs, d, (cs, LV, ps, bso cs d ps), cs, ps, (ps.length : Int), (k : Int)) = some (.inl ((cs, LV, ps, bso cs d ps), cs))
 | 0, k, a, pre, hj, hp, hL, ha => by
  refine loopW_done (Post.run ?_)
  dsimp only
  unfold law18_LevelsText_L16
  exact Post.brF (by rw [decide_eq_false_iff_not]; omega) (Post.pure rfl)
 | j + 1, k, a, pre, hj, hp, hL, ha => by
  have hk : k < ps.length := by omega
  rw [List.drop_eq_getElem_cons hk] at hp hL
  obtain ⟨han, hnx, hrest⟩ := hp
  obtain ⟨b, e2, hab, hbn, e1⟩ := hnx.to_ han
  have hbk : (bso cs d ps).getD k 0 = bs d (prt cs ps[k]) := by unfold bso; rw [map_getD _ (0, 0, 0) 0 hk]; simp [List.getD, hk]
  have hbl : (bso cs d ps).length = ps.length := by unfold bso; rw [List.length_map]
  generalize hpk : ps[k] = p at *
  have hb := bs_two hd (prt cs p)
  have hl1 : (prt rs p).length = b - a := by rw [show p = ((a : Int), (b : Int), p.2.2) by rw [← e1, ← e2]]; exact prt_len (by omega) (by omega) _
  have hl2 : (prt cs p).length = b - a := by rw [show p = ((a : Int), (b : Int), p.2.2) by rw [← e1, ← e2]]; exact prt_len (by omega) (by omega) _
  have hpl : (par (prt rs p) (prt cs p) (bs d (prt cs p))).length = b - a := by rw [par_len]; exact hl2
  have hcons : lvo rs cs d (p :: List.drop (k + 1) ps) = par (prt rs p) (prt cs p) (bs d (prt cs p)) ++ lvo rs cs d (List.drop (k + 1) ps) := by simp only [lvo, List.map_cons, List.flatten_cons]
  rw [hcons] at hL
  have hcp : ∀ c ∈ prt cs p, 0 ≤ c ∧ c ≤ 22 := fun c hc => hcs c (List.mem_of_mem_take (List.mem_of_mem_drop hc))
  have hwp : ∀ x ∈ prt rs p, -2147483648 ≤ x ∧ x ≤ 2147483647 := fun x hx => w x (List.mem_of_mem_take (List.mem_of_mem_drop hx))
  have c1 := prt_cut (xs := cs) e1 e2 (by omega) (by omega)
  have c2 := prt_cut (xs := rs) e1 e2 (by omega) (by omega)
  have c3 : cut LV p.1 p.2.1 = some (par (prt rs p) (prt cs p) (bs d (prt cs p))) := by
   rw [hL]
   exact cut_mid pre _ _ (a := a) (b := b) ha (by omega) e1 e2
  have c4 := want_F (prt rs p) (prt cs p) hb (by omega) (by omega) hwp hcp
  have c5 := same_F (par (prt rs p) (prt cs p) (bs d (prt cs p))) (by omega)
  have c6 := ints_F (prt cs p) (by omega) hcp
  have c7 := Ex.refFirst_F (prt cs p) false 0 (by omega)
  have hw := wrap_succ (k := k) (by omega)
  refine loopW_next (s' := (rs, d, (cs, LV, ps, bso cs d ps), cs, ps, (ps.length : Int), ((k + 1 : Nat) : Int))) (Post.run ?_) (text16 rs cs h1 h2 hn w hcs hd ps hps LV hLV j (k + 1) b (pre ++ par (prt rs p) (prt cs p) (bs d (prt cs p))) (by omega) (by rw [e2] at hrest; exact hrest) (by rw [hL, List.append_assoc]) (by rw [List.length_append, hpl]; omega))
  dsimp only
  unfold law18_LevelsText_L16
  refine Post.brT (by rw [decide_eq_true_eq]; omega) (Post.bnd (idx_get (k := k) rfl hk) ?_)
  rw [hpk]
  refine Nu.post_box (Post.bnd (idx_get (k := k) rfl hk) ?_)
  rw [hpk]
  refine Nu.post_box (Post.brF (by simp) (Nu.post_box (Nu.post_box (Post.bnd c1 (Post.br (fun g => ?_) (fun g => ?_))))))
  ·rw [beq_iff_eq] at g
   subst g
   refine Post.bnd c6 (Post.bnd c7 (Nu.post_box (Post.idx 0 k rfl (by dsimp only; omega) ?_)))
   rw [hbk]
   refine Post.brF (by show (bs 0 (prt cs p) != bs 0 (prt cs p)) = false; simp) (Nu.post_box (Nu.post_box (Nu.post_box (Post.bnd c3 (Nu.post_box (Nu.post_box (Post.bnd c2 (Post.bnd c4 (Post.bnd c5 (Post.brF rfl (Post.pure (by rw [hw]))))))))))))
  ·rw [beq_eq_false_iff_ne] at g
   have hbd : bs d (prt cs p) = d - 1 := by unfold bs; rw [if_neg g]
   have hwd : IntKind.i64.wrap (d - 1) = bs d (prt cs p) := by rw [wrap64 (by omega) (by omega), hbd]
   rw [hwd]
   refine Nu.post_box (Post.idx 0 k rfl (by dsimp only; omega) ?_)
   rw [hbk]
   exact Post.brF (by simp) (Nu.post_box (Nu.post_box (Nu.post_box (Post.bnd c3 (Nu.post_box (Nu.post_box (Post.bnd c2 (Post.bnd c4 (Post.bnd c5 (Post.brF rfl (Post.pure (by rw [hw]))))))))))))
theorem levelsText_F (rs : List Int) (d : Int) (hn : rs.length ≤ 1048576) (w : ∀ x ∈ rs, -2147483648 ≤ x ∧ x ≤ 2147483647) : law18_LevelsText_F rs d = some true := by
 unfold law18_LevelsText_F law18_LevelsText_T
 by_cases hlo : d < 0
 ·exact Post.run (Post.bnd awake18 (Post.brF rfl (Post.bnd (of_bad rs (.inl hlo)) (Post.brT (decide_eq_true hlo) (Nu.post_box (Post.brT rfl (Nu.post_box (Post.brT rfl (Post.bnd (told_d d) (Post.pure rfl))))))))))
 ·by_cases hhi : d > 2
  ·exact Post.run (Post.bnd awake18 (Post.brF rfl (Post.bnd (of_bad rs (.inr hhi)) (Post.brF (decide_eq_false hlo) (Post.brT (decide_eq_true hhi) (Nu.post_box (Post.brT rfl (Nu.post_box (Post.brT rfl (Post.bnd (told_d d) (Post.pure rfl)))))))))))
  ·have hd : 0 ≤ d ∧ d ≤ 2 := by omega
   obtain ⟨ps, hp, hps, hof⟩ := of_F rs (by omega) hd
   obtain ⟨ps', hs', hp'⟩ := Pa.split_F rs (cl4 rs) (by rw [cl4_len]; omega)
   rw [cl4_len, Nat.min_self] at hp'
   have := hp'.det hp
   subst this
   have hlv := lvo_lent rs (cl4 rs) rfl (cl4_len rs) d hp
   have hbl : (bso (cl4 rs) d ps').length = ps'.length := by unfold bso; rw [List.length_map]
   have h16 := text16 rs (cl4 rs) rfl (cl4_len rs) (by omega) w (cl4_le rs) hd ps' hps (lvo rs (cl4 rs) d ps') (by omega) ps'.length 0 0 [] (by omega) hp rfl rfl
   refine Post.run (Post.bnd awake18 (Post.brF rfl (Post.bnd hof (Post.brF (decide_eq_false hlo) (Post.brF (decide_eq_false hhi) (Post.bnd (text8 rs (by omega) w d _ _) (Post.bnd hs' (Post.brF rfl ?_))))))))
   refine Nu.post_box (Post.brF (by simp) (Nu.post_box (Post.brF (by simp) (Nu.post_box (Post.brF (by dsimp only; rw [hbl]; simp) (Nu.post_box (Post.brF (by dsimp only; rw [cl4_len, show (lvo rs (cl4 rs) d ps').length = rs.length by omega]; simp) (Post.altL h16 (Post.altL (b := ()) ?_ (Post.pure rfl))))))))))
   have hcl := cl4_len rs
   generalize cl4 rs = cs at *
   refine count (L := fun s : Tx × List Int × Int => law18_LevelsText_L28 s.1 s.2.1 s.2.2) cs.length (fun k => ((cs, lvo rs cs d ps', ps', bso cs d ps'), cs, (k : Int))) rfl (fun k hk => ?_) ?_
   ·dsimp only
    unfold law18_LevelsText_L28
    exact Post.brT (by rw [decide_eq_true_eq]; omega) (Nu.post_box (Post.idx 0 k rfl hk (Post.idx 0 k rfl hk (Post.brF (by simp) (Post.pure (by rw [wrap_succ (by omega)]))))))
   ·dsimp only
    unfold law18_LevelsText_L28
    exact Post.brF (by rw [decide_eq_false_iff_not]; omega) (Post.pure rfl)
theorem levelsText_all (x : Tys.I [.sl (.int .i32), .int .i64]) (h : WfAll [.sl (.int .i32), .int .i64] x) (hb : bulkAll [.sl (.int .i32), .int .i64] x ≤ 1048576) : law18_LevelsText_F x.1 x.2.1 = some true := by
 simp only [bulkAll, bulk] at hb
 exact levelsText_F _ _ (by omega) (fun n hn => wf_i32 (h.1.2 n hn))
end Go.Proofs.YtenbhmjcoljddaaGreatDoor
