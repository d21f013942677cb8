/-
  LevelsParts returns true.
-/
import Derived.Test.YtenbhmjcoljddaaDoorLvA
import Derived.Test.YtenbhmjcoljddaaDoorLvPb
namespace Go.Proofs.YtenbhmjcoljddaaDoor
set_option linter.all false

theorem cl4_map (rs : List Int) : cl4 rs = rs.map fun x => Bd.finds Bd.bidicT x 0 := by
  refine List.ext_getElem (by rw [cl4_len, List.length_map]) fun i h1 h2 => ?_
  rw [cl4_len] at h1
  have e : (cl4 rs)[i]'(by rw [cl4_len]; exact h1) = (cl4 rs).getD i 0 := by simp [List.getD, cl4_len, h1]
  rw [e]
  unfold cl4
  rw [tab_getD _ _ h1]
  simp [List.getD, h1]
theorem cl4_app (a b : List Int) : cl4 (a ++ b) = cl4 a ++ cl4 b := by rw [cl4_map, cl4_map, cl4_map, List.map_append]
theorem cl_nl : cl4 [10] = [10] := by kernel_rfl

theorem paras_mem {r c : Nat → Int} {n : Nat} : ∀ {l : List P3} {a b : Nat}, Pa.Paras r c n a l b → ∀ p ∈ l, ∃ i j : Nat, p.1 = (i : Int) ∧ p.2.1 = (j : Int) ∧ i < j ∧ j ≤ n
  | [], _, _, _, p, hp => by cases hp
  | q :: l, a, b, h, p, hp => by
    obtain ⟨han, hnx, hrest⟩ := h
    rcases List.mem_cons.1 hp with rfl | hp
    · obtain ⟨j, e2, h1, h2, e1⟩ := hnx.to_ han
      exact ⟨a, j, e1, e2, h1, h2⟩
    · exact paras_mem hrest p hp
theorem prt_left (xs ys : List Int) {p : P3} {j : Nat} (e : p.2.1 = (j : Int)) (hj : j ≤ xs.length) : prt (xs ++ ys) p = prt xs p := by
  unfold prt
  rw [e, toNat_nat, List.take_append_of_le_length hj]
theorem prt_onto (xs ys : List Int) {n : Nat} (hn : xs.length = n + 1) {p : P3} {i j : Nat} (e1 : p.1 = (i : Int)) (e2 : p.2.1 = (j : Int)) : prt (xs ++ ys) (Pa.onto n p) = prt ys p := by
  unfold prt Pa.onto
  dsimp only
  rw [e1, e2, show ((i : Int) + n + 1).toNat = xs.length + i by omega, show ((j : Int) + n + 1).toNat = xs.length + j by omega, toNat_nat, toNat_nat, List.take_append, List.take_of_length_le (by omega), show xs.length + j - xs.length = j by omega, List.drop_append, List.drop_of_length_le (by omega), List.nil_append, show xs.length + i - xs.length = i by omega]
theorem lvo_lens (rs cs : List Int) {n : Nat} (h1 : rs.length = n) (h2 : cs.length = n) (d : Int) {r c : Nat → Int} : ∀ {ps : List P3} {a : Nat}, Pa.Paras r c n a ps n → (lvo rs cs d ps).length + a = n
  | [], a, h => by
    have h : a = n := h
    subst h
    simp [lvo]
  | p :: l, a, h => by
    obtain ⟨han, hnx, hrest⟩ := h
    obtain ⟨b, e2, hab, hbn, e1⟩ := hnx.to_ han
    rw [e2] at hrest
    have ih := lvo_lens rs cs h1 h2 d hrest
    have hl2 : (prt cs p).length = b - a := by rw [show p = ((a : Int), (b : Int), p.2.2) by rw [← e1, ← e2]]; exact prt_len (by omega) (by omega) _
    rw [toNat_nat] at ih
    have : lvo rs cs d (p :: l) = par (prt rs p) (prt cs p) (bs d (prt cs p)) ++ lvo rs cs d l := by simp only [lvo, List.map_cons, List.flatten_cons]
    rw [this, List.length_append, par_len, hl2]
    omega
theorem lvo_left (xs ys cs ds : List Int) (d : Int) {n : Nat} (h1 : xs.length = n) (h2 : cs.length = n) {r c : Nat → Int} {l : List P3} {a b : Nat} (h : Pa.Paras r c n a l b) : lvo (xs ++ ys) (cs ++ ds) d l = lvo xs cs d l ∧ bso (cs ++ ds) d l = bso cs d l := by
  have hm := paras_mem h
  unfold lvo bso
  constructor
  · congr 1
    refine List.map_congr_left fun p hp => ?_
    obtain ⟨i, j, e1, e2, h3, h4⟩ := hm p hp
    rw [prt_left xs ys e2 (by omega), prt_left cs ds e2 (by omega)]
  · refine List.map_congr_left fun p hp => ?_
    obtain ⟨i, j, e1, e2, h3, h4⟩ := hm p hp
    rw [prt_left cs ds e2 (by omega)]
theorem lvo_onto (xs ys cs ds : List Int) (d : Int) {n : Nat} (h1 : xs.length = n + 1) (h2 : cs.length = n + 1) {r c : Nat → Int} {m : Nat} {l : List P3} {a b : Nat} (h : Pa.Paras r c m a l b) : lvo (xs ++ ys) (cs ++ ds) d (l.map (Pa.onto n)) = lvo ys ds d l ∧ bso (cs ++ ds) d (l.map (Pa.onto n)) = bso ds d l := by
  have hm := paras_mem h
  unfold lvo bso
  rw [List.map_map, List.map_map]
  constructor
  · congr 1
    refine List.map_congr_left fun p hp => ?_
    obtain ⟨i, j, e1, e2, h3, h4⟩ := hm p hp
    dsimp only [Function.comp]
    rw [prt_onto xs ys h1 e1 e2, prt_onto cs ds h2 e1 e2]
  · refine List.map_congr_left fun p hp => ?_
    obtain ⟨i, j, e1, e2, h3, h4⟩ := hm p hp
    dsimp only [Function.comp]
    rw [prt_onto cs ds h2 e1 e2]
theorem lvo_two (rs cs : List Int) (d : Int) (l k : List P3) : lvo rs cs d (l ++ k) = lvo rs cs d l ++ lvo rs cs d k ∧ bso cs d (l ++ k) = bso cs d l ++ bso cs d k := by
  unfold lvo bso
  rw [List.map_append, List.map_append, List.flatten_append]
  exact ⟨rfl, rfl⟩
/-- a text whose first part ends in a line feed -/
theorem of_parts (a b : List Int) (hn : a.length + b.length ≤ 1048576) {d : Int} (hd : 0 ≤ d ∧ d ≤ 2) : ∃ x y z : Tx, levels_Of_F (a ++ [10]) d = some (x, none) ∧ levels_Of_F b d = some (y, none) ∧ levels_Of_F (a ++ [10] ++ b) d = some (z, none) ∧
    x.2.1.length = a.length + 1 ∧ y.2.1.length = b.length ∧ z.2.1 = x.2.1 ++ y.2.1 ∧ z.2.2.2 = x.2.2.2 ++ y.2.2.2 ∧ x.2.2.2.length ≤ a.length + 1 ∧ y.2.2.2.length ≤ b.length := by
  have l1 : (a ++ [10]).length = a.length + 1 := by simp
  have l3 : (a ++ [10] ++ b).length = a.length + 1 + b.length := by simp only [List.length_append, List.length_singleton]
  have c1 : (cl4 (a ++ [10])).length = a.length + 1 := by rw [cl4_len, l1]
  obtain ⟨p1, hp1, n1, o1⟩ := of_F (a ++ [10]) (by omega) hd
  obtain ⟨p2, hp2, n2, o2⟩ := of_F b (by omega) hd
  obtain ⟨p3, hp3, n3, o3⟩ := of_F (a ++ [10] ++ b) (by omega) hd
  have hcl : cl4 (a ++ [10] ++ b) = cl4 (a ++ [10]) ++ cl4 b := cl4_app _ _
  have hca : cl4 (a ++ [10]) = cl4 a ++ [10] := by rw [cl4_app, cl_nl]
  rw [l1] at hp1
  rw [l3] at hp3
  have q1 : Pa.Paras (fun i => (a ++ [10] ++ b).getD i 0) (fun i => (cl4 (a ++ [10] ++ b)).getD i 0) (a.length + 1) 0 p1 (a.length + 1) :=
    hp1.congr (fun i hi => (Pa.getD_left (a ++ [10]) b i (by omega)).symm) (fun i hi => by rw [hcl]; exact (Pa.getD_left (cl4 (a ++ [10])) (cl4 b) i (by omega)).symm)
  have r10 : (a ++ [10] ++ b).getD a.length 0 = 10 := by
    rw [Pa.getD_left (a ++ [10]) b a.length (by omega)]
    simp [List.getD]
  have k10 : (cl4 (a ++ [10] ++ b)).getD a.length 0 = 10 := by
    rw [hcl, Pa.getD_left (cl4 (a ++ [10])) (cl4 b) a.length (by omega), hca]
    simp [List.getD, cl4_len]
  have q2 := q1.wider (m := b.length) k10 (by rw [r10]; decide)
  have q3 : Pa.Paras (fun i => (a ++ [10] ++ b).getD (a.length + 1 + i) 0) (fun i => (cl4 (a ++ [10] ++ b)).getD (a.length + 1 + i) 0) b.length 0 p2 b.length :=
    hp2.congr (fun i hi => (Pa.getD_right (a ++ [10]) b (a.length + 1) i l1).symm) (fun i hi => by rw [hcl]; exact (Pa.getD_right (cl4 (a ++ [10])) (cl4 b) (a.length + 1) i c1).symm)
  have q4 := Pa.Paras.onto (r := fun i => (a ++ [10] ++ b).getD i 0) (c := fun i => (cl4 (a ++ [10] ++ b)).getD i 0) q3
  have e3 : p3 = p1 ++ p2.map (Pa.onto a.length) := hp3.det (q2.app q4)
  subst e3
  have t := lvo_two (a ++ [10] ++ b) (cl4 (a ++ [10] ++ b)) d p1 (p2.map (Pa.onto a.length))
  have u := lvo_left (a ++ [10]) b (cl4 (a ++ [10])) (cl4 b) d l1 c1 hp1
  have v := lvo_onto (a ++ [10]) b (cl4 (a ++ [10])) (cl4 b) d l1 c1 hp2
  rw [← hcl] at u v
  have w1 := lvo_lens (a ++ [10]) (cl4 (a ++ [10])) l1 c1 d hp1
  have w2 := lvo_lens b (cl4 b) rfl (cl4_len b) d hp2
  refine ⟨_, _, _, o1, o2, o3, w1, w2, ?_, ?_, ?_, ?_⟩
  · dsimp only
    rw [t.1, u.1, v.1]
  · dsimp only
    rw [t.2, u.2, v.2]
  · dsimp only
    rw [bso, List.length_map]
    omega
  · dsimp only
    rw [bso, List.length_map]
    exact n2
theorem sames_F (xs : List Int) (hn : xs.length ≤ 4194304) : law18_same_F xs xs = some true := by
  unfold law18_same_F law18_same_T
  refine Post.run (Post.brF (by simp) (Post.altL (b := ()) (count (L := fun s : List Int × List Int × Int => law18_same_L4 s.1 s.2.1 s.2.2) xs.length (fun k => (xs, xs, (k : Int))) rfl (fun k hk => ?_) ?_) (Post.pure rfl)))
  · dsimp only
    unfold law18_same_L4
    exact Post.brT (by rw [decide_eq_true_eq]; omega) (Post.idx 0 k rfl hk (Post.idx 0 k rfl hk (Post.brF (by simp) (Post.pure (by rw [wrap_succ (by omega)])))))
  · dsimp only
    unfold law18_same_L4
    exact Post.brF (by rw [decide_eq_false_iff_not]; omega) (Post.pure rfl)
theorem levelsParts_F (a b : List Int) (d0 : Int) (hn : a.length + b.length ≤ 1048576) (hd0 : 0 ≤ d0 ∧ d0 ≤ 255) : law18_LevelsParts_F a b d0 = some true := by
  obtain ⟨d, e, hd⟩ : ∃ d : Int, IntKind.i64.wrap (d0.tmod 3) = d ∧ (0 ≤ d ∧ d ≤ 2) := by
    refine ⟨d0 % 3, ?_, by omega⟩
    rw [Int.tmod_eq_emod_of_nonneg hd0.1, wrap64 (by omega) (by omega)]
  obtain ⟨⟨xc, xl, xp, xb⟩, ⟨yc, yl, yp, yb⟩, ⟨zc, zl, zp, zb⟩, o1, o2, o3, w1, w2, w3, w4, w5, w6⟩ := of_parts a b hn hd
  dsimp only at w1 w2 w3 w4 w5 w6
  subst w3 w4
  have l1 : (a ++ [10]).length = a.length + 1 := by simp
  have l3 : (a ++ [10] ++ b).length = a.length + 1 + b.length := by simp only [List.length_append, List.length_singleton]
  have l4 : (xl ++ yl).length = a.length + 1 + b.length := by rw [List.length_append]; omega
  have l5 : (xb ++ yb).length ≤ a.length + 1 + b.length := by rw [List.length_append]; omega
  have c1 : cut (xl ++ yl) 0 ((a ++ [10]).length : Int) = some xl := by
    rw [cut_take rfl (by omega), List.take_append_of_le_length (by omega), List.take_of_length_le (by omega)]
  have c2 : cut (xl ++ yl) ((a ++ [10]).length : Int) ((xl ++ yl).length : Int) = some yl := by
    rw [cut_drop rfl rfl (by omega) (by omega), List.take_of_length_le (by omega), List.drop_append, List.drop_of_length_le (by omega), List.nil_append, Nat.sub_eq_zero_of_le (by omega), List.drop_zero]
  unfold law18_LevelsParts_F law18_LevelsParts_T
  rw [e]
  have a1 : app 35184372088832 [] a = some a := app_eq (by simp; omega)
  have a2 : app 35184372088832 a [10] = some (a ++ [10]) := app_eq (by simp; omega)
  have a3 : app 35184372088832 [] (a ++ [10]) = some (a ++ [10]) := app_eq (by simp; omega)
  have a4 : app 35184372088832 (a ++ [10]) b = some (a ++ [10] ++ b) := app_eq (by omega)
  have a5 : app 17592186044416 [] xb = some xb := app_eq (by simp; omega)
  have a6 : app 17592186044416 xb yb = some (xb ++ yb) := app_eq (by omega)
  refine Post.run (Post.bnd awake18 (Post.brF rfl (Post.bnd a1 (Post.bnd a2 (Post.bnd a3 (Post.bnd a4 (Post.bnd o1 (Post.bnd o2 (Post.bnd o3 (Post.brF rfl (Post.brF rfl (Post.brF rfl ?_))))))))))))
  refine Nu.post_box (Post.brF (by dsimp only; rw [l4, l3]; simp) (Nu.post_box (Post.brF (by dsimp only; rw [w1, l1]; simp) (Nu.post_box (Post.brF (by dsimp only; rw [w2]; simp) ?_)))))
  refine Nu.post_box (Post.bnd c1 (Nu.post_box (Post.bnd (sames_F xl (by omega)) (Post.brT rfl (Nu.post_box (Post.bnd c2 (Nu.post_box (Post.bnd (sames_F yl (by omega)) (Post.brT rfl (Nu.post_box (Nu.post_box (Nu.post_box (Post.bnd a5 (Post.bnd a6 (Post.bnd (sames_F (xb ++ yb) (by omega)) (Post.pure rfl))))))))))))))))
theorem levelsParts_all (x : Tys.I [.sl (.int .i32), .sl (.int .i32), .int .u8]) (h : WfAll [.sl (.int .i32), .sl (.int .i32), .int .u8] x) (hb : bulkAll [.sl (.int .i32), .sl (.int .i32), .int .u8] x ≤ 1048576) : law18_LevelsParts_F x.1 x.2.1 x.2.2.1 = some true := by
  simp only [bulkAll, bulk] at hb
  exact levelsParts_F _ _ _ (by omega) (wf_u8 h.2.2.1)

end Go.Proofs.YtenbhmjcoljddaaDoor
