/-
  LevelsBase returns true.
-/
import Derived.Test.YtenbhmjcoljddaaDoorLvA
namespace Go.Proofs.YtenbhmjcoljddaaDoor
set_option linter.all false

theorem lvo_len (rs cs : List Int) {n : Nat} (h1 : rs.length = n) (h2 : cs.length = n) (d : Int) {r c : Nat → Int} : ∀ {ps : List P3} {a : Nat}, Pa.Paras r c n a ps n → (lvo rs cs d ps).length + a = n
  | [], a, h => by
    have h : a = n := h
    subst h
    simp [lvo]
  | p :: l, a, h => by
    obtain ⟨han, hnx, hrest⟩ := h
    obtain ⟨b, e2, hab, hbn, e1⟩ := hnx.to_ han
    rw [e2] at hrest
    have ih := lvo_len rs cs h1 h2 d hrest
    have hl2 : (prt cs p).length = b - a := by rw [show p = ((a : Int), (b : Int), p.2.2) by rw [← e1, ← e2]]; exact prt_len (by omega) (by omega) _
    rw [toNat_nat] at ih
    have : lvo rs cs d (p :: l) = par (prt rs p) (prt cs p) (bs d (prt cs p)) ++ lvo rs cs d l := by simp only [lvo, List.map_cons, List.flatten_cons]
    rw [this, List.length_append, par_len, hl2]
    omega

abbrev L14S := Int × Tx × P3 × Int × Int × List P3 × Int × Int
theorem base_inner (dir : Int) (t : Tx) (p : P3) (v : Int) (ps : List P3) (x y : Int) {a b : Nat} (e1 : p.1 = (a : Int)) (e2 : p.2.1 = (b : Int)) (hab : a ≤ b) (hb : b ≤ t.2.1.length) (hn : t.2.1.length ≤ 4194304) (h : ∀ i, a ≤ i → i < b → t.2.1.getD i 0 = -1 ∨ v ≤ t.2.1.getD i 0) :
    loopW (fun s : L14S => (law18_LevelsBase_L14 s.1 s.2.1 s.2.2.1 s.2.2.2.1 s.2.2.2.2.1 s.2.2.2.2.2.1 s.2.2.2.2.2.2.1 s.2.2.2.2.2.2.2).run) (dir, t, p, v, p.1, ps, x, y) = some (.inl (dir, t, ps, x, y)) := by
  refine count (L := fun s : L14S => law18_LevelsBase_L14 s.1 s.2.1 s.2.2.1 s.2.2.2.1 s.2.2.2.2.1 s.2.2.2.2.2.1 s.2.2.2.2.2.2.1 s.2.2.2.2.2.2.2) (b - a) (fun k => (dir, t, p, v, ((a + k : Nat) : Int), ps, x, y)) (by rw [e1]; rfl) (fun k hk => ?_) ?_
  · dsimp only
    unfold law18_LevelsBase_L14
    have hw : IntKind.i64.wrap (((a + k : Nat) : Int) + 1) = ((a + (k + 1) : Nat) : Int) := wrap_succ (by omega)
    refine Nu.post_box (Post.brT (by rw [decide_eq_true_eq, e2]; omega) (Nu.post_box (Post.idx 0 (a + k) rfl (by omega) (Post.br (fun g => ?_) (fun g => Post.pure (by rw [hw])))))) 
    rw [bne_iff_ne] at g
    refine Nu.post_box (Post.idx 0 (a + k) rfl (by omega) (Post.brF ?_ (Post.pure (by rw [hw]))))
    have := h (a + k) (by omega) (by omega)
    rw [decide_eq_false_iff_not]
    omega
  · dsimp only
    unfold law18_LevelsBase_L14
    exact Nu.post_box (Post.brF (by rw [decide_eq_false_iff_not, e2]; omega) (Post.pure rfl))

theorem base_loop (rs cs : List Int) {n : Nat} (h1 : rs.length = n) (h2 : cs.length = n) (hn : n ≤ 2097152) {d : Int} (hd : 0 ≤ d ∧ d ≤ 2) (ps : List P3) (hps : ps.length ≤ n) (LV : List Int) (hLV : LV.length = n) {r c : Nat → Int} : ∀ (j k a : Nat) (pre : List Int), ps.length = k + j → Pa.Paras r c n a (ps.drop k) n → LV = pre ++ lvo rs cs d (ps.drop k) → pre.length = a →
    loopW (fun s : Int × Tx × List P3 × Int × Int => (law18_LevelsBase_L8 s.1 s.2.1 s.2.2.1 s.2.2.2.1 s.2.2.2.2).run) (d, (cs, LV, ps, bso cs d ps), ps, (ps.length : Int), (k : Int)) = some (.inl ())
  | 0, k, a, pre, hj, hp, hL, ha => by
    refine loopW_done (Post.run ?_)
    dsimp only
    unfold law18_LevelsBase_L8
    exact Post.brF (by rw [decide_eq_false_iff_not]; omega) (Post.pure rfl)
  | j + 1, k, a, pre, hj, hp, hL, ha => by
    have hk : k < ps.length := by omega
    rw [List.drop_eq_getElem_cons hk] at hp hL
    obtain ⟨han, hnx, hrest⟩ := hp
    obtain ⟨b, e2, hab, hbn, e1⟩ := hnx.to_ han
    have hbk : (bso cs d ps).getD k 0 = bs d (prt cs ps[k]) := by unfold bso; rw [map_getD _ (0, 0, 0) 0 hk]; simp [List.getD, hk]
    have hbl : (bso cs d ps).length = ps.length := by unfold bso; rw [List.length_map]
    generalize hpk : ps[k] = p at *
    have hb := bs_two hd (prt cs p)
    have hl2 : (prt cs p).length = b - a := by rw [show p = ((a : Int), (b : Int), p.2.2) by rw [← e1, ← e2]]; exact prt_len (by omega) (by omega) _
    have hpl : (par (prt rs p) (prt cs p) (bs d (prt cs p))).length = b - a := by rw [par_len]; exact hl2
    have hcons : lvo rs cs d (p :: List.drop (k + 1) ps) = par (prt rs p) (prt cs p) (bs d (prt cs p)) ++ lvo rs cs d (List.drop (k + 1) ps) := by simp only [lvo, List.map_cons, List.flatten_cons]
    rw [hcons] at hL
    have hin := base_inner d (cs, LV, ps, bso cs d ps) p (bs d (prt cs p)) ps (ps.length : Int) (k : Int) e1 e2 (by omega) (by dsimp only; omega) (by dsimp only; omega) (fun i i1 i2 => by
      dsimp only
      have hleast := par_least (prt rs p) (prt cs p) hb (by omega) (i - a) (by omega)
      have e : LV.getD i 0 = (par (prt rs p) (prt cs p) (bs d (prt cs p))).getD (i - a) 0 := by
        rw [hL]
        simp only [List.getD]
        rw [List.getElem?_append_right (by omega), List.getElem?_append_left (by omega), ha]
      rw [e]
      exact hleast)
    refine loopW_next (s' := (d, (cs, LV, ps, bso cs d ps), ps, (ps.length : Int), ((k + 1 : Nat) : Int))) (Post.run ?_) (base_loop rs cs h1 h2 hn hd ps hps LV hLV j (k + 1) b (pre ++ par (prt rs p) (prt cs p) (bs d (prt cs p))) (by omega) (by rw [e2] at hrest; exact hrest) (by rw [hL, List.append_assoc]) (by rw [List.length_append, hpl]; omega))
    have hw := wrap_succ (k := k) (by omega)
    dsimp only
    unfold law18_LevelsBase_L8
    refine Post.brT (by rw [decide_eq_true_eq]; omega) (Post.bnd (idx_get (k := k) rfl hk) (Nu.post_box (Post.idx 0 k rfl (by dsimp only; omega) ?_)))
    rw [hbk, hpk]
    have hd3 : d = 0 ∨ d = 1 ∨ d = 2 := by omega
    rcases hd3 with rfl | rfl | rfl
    · have hb2 : bs 0 (prt cs p) = 0 ∨ bs 0 (prt cs p) = 1 := by omega
      rcases hb2 with q | q
      · rw [q] at hin ⊢
        exact Post.brF rfl (Post.brF rfl (Post.brF rfl (Nu.post_box (Post.altL hin (Post.pure (by dsimp only; rw [hw]))))))
      · rw [q] at hin ⊢
        exact Post.brT rfl (Post.brF rfl (Post.brF rfl (Post.brF rfl (Nu.post_box (Post.altL hin (Post.pure (by dsimp only; rw [hw])))))))
    · have q : bs 1 (prt cs p) = 0 := rfl
      rw [q] at hin ⊢
      exact Post.brF rfl (Post.brT rfl (Post.brF rfl (Post.brF rfl (Nu.post_box (Post.altL hin (Post.pure (by dsimp only; rw [hw])))))))
    · have q : bs 2 (prt cs p) = 1 := rfl
      rw [q] at hin ⊢
      exact Post.brT rfl (Post.brF rfl (Post.brF rfl (Post.brT rfl (Post.brF rfl (Nu.post_box (Post.altL hin (Post.pure (by dsimp only; rw [hw]))))))))
theorem levelsBase_F (rs : List Int) (d0 : Int) (hn : rs.length ≤ 2097152) (hd0 : 0 ≤ d0 ∧ d0 ≤ 255) : law18_LevelsBase_F rs d0 = some true := by
  obtain ⟨d, e, hd⟩ : ∃ d : Int, IntKind.i64.wrap (d0.tmod 3) = d ∧ (0 ≤ d ∧ d ≤ 2) := by
    refine ⟨d0 % 3, ?_, by omega⟩
    rw [Int.tmod_eq_emod_of_nonneg hd0.1, wrap64 (by omega) (by omega)]
  obtain ⟨ps, hp, hps, hof⟩ := of_F rs hn hd
  have hlen := lvo_len rs (cl4 rs) rfl (cl4_len rs) d hp
  have hbl : (bso (cl4 rs) d ps).length = ps.length := by unfold bso; rw [List.length_map]
  unfold law18_LevelsBase_F law18_LevelsBase_T
  rw [e]
  refine Post.run (Post.bnd awake18 (Post.brF rfl (Post.bnd hof (Post.brF rfl (Nu.post_box (Nu.post_box (Post.brF (by dsimp only; rw [hbl]; simp) (Nu.post_box (Post.brF (by dsimp only; rw [show (lvo rs (cl4 rs) d ps).length = rs.length by omega]; simp) (Nu.post_box (Post.altL (base_loop rs (cl4 rs) rfl (cl4_len rs) hn hd ps hps (lvo rs (cl4 rs) d ps) (by omega) ps.length 0 0 [] (by omega) hp rfl rfl) (Post.pure rfl))))))))))))
theorem levelsBase_all (x : Tys.I [.sl (.int .i32), .int .u8]) (h : WfAll [.sl (.int .i32), .int .u8] x) (hb : bulkAll [.sl (.int .i32), .int .u8] x ≤ 1048576) : law18_LevelsBase_F x.1 x.2.1 = some true := by
  simp only [bulkAll, bulk] at hb
  exact levelsBase_F _ _ (by omega) (wf_u8 h.2.1)

end Go.Proofs.YtenbhmjcoljddaaDoor
