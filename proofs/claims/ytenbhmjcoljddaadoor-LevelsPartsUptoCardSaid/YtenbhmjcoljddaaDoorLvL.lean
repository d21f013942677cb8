/-
  The levels of a paragraph: what the program makes, rule behind rule.
-/
import Derived.Test.YtenbhmjcoljddaaDoorLvS
import Derived.Test.YtenbhmjcoljddaaDoorLvW
import Derived.Test.YtenbhmjcoljddaaDoorLvN
namespace Go.Proofs.YtenbhmjcoljddaaDoor
set_option linter.all false
namespace Im
theorem level_F {c l : Int} (hl : 0 ≤ l ∧ l ≤ 100000) : implicit_Level_F c l = some (if l % 2 = 0 then l + (if c = 1 then 1 else if c = 6 then 2 else if c = 3 then 2 else 0) else l + (if c = 0 then 1 else if c = 6 then 1 else if c = 3 then 1 else 0)) := by
  have hm : l.tmod 2 = l % 2 := Int.tmod_eq_emod_of_nonneg hl.1
  unfold implicit_Level_F implicit_Level_T implicit_aboveEven_F implicit_aboveEven_T implicit_aboveOdd_F implicit_aboveOdd_T
  simp only [Tr.run_br, Tr.run_bnd, Tr.run_pure, hm, beq_iff_eq]
  repeat' split
  all_goals first | contradiction | (simp only [Option.bind_some, Tr.run_pure]; rw [wrap64 (by omega) (by omega)])
end Im
abbrev Sq := List Int × Int × Int × Int

/-! ### without brackets -/
theorem closings_none (rs cs : List Int) {n : Nat} (h1 : rs.length = n) (h2 : cs.length = n) (hn : n ≤ 4194304) (h : ∀ k, k < n → Nu.brV (rs.getD k 0) = (0, 0)) : pairs_closings_F rs cs = some (List.replicate n 0) := by
  unfold pairs_closings_F pairs_closings_T
  have e : (if (cs.length : Int) < (rs.length : Int) then (cs.length : Int) else (rs.length : Int)) = (n : Int) := by rw [h1, h2]; split <;> rfl
  rw [e]
  refine Post.run (Post.bnd (mk_eq (k := n) rfl (by omega)) (Post.altL (b := List.replicate n 0) (count (L := fun s : List Int × List Int × List Int × List (Int × Int) × Int × Int => pairs_closings_L5 s.1 s.2.1 s.2.2.1 s.2.2.2.1 s.2.2.2.2.1 s.2.2.2.2.2) n (fun k => (rs, cs, List.replicate n 0, [], (n : Int), (k : Int))) rfl (fun k hk => ?_) ?_) (Post.pure rfl)))
  · dsimp only
    unfold pairs_closings_L5
    refine Post.brT (by rw [decide_eq_true_eq]; omega) (Post.idx 0 k rfl (by omega) (Post.br (fun _ => Post.pure (by rw [wrap_succ (by omega)])) (fun _ => Post.idx 0 k rfl (by omega) (Post.bnd (Nu.brack_F _) ?_))))
    rw [h k hk]
    exact Post.brF (by decide) (Post.brF (by decide) (Post.pure (by rw [wrap_succ (by omega)])))
  · dsimp only
    unfold pairs_closings_L5
    exact Post.brF (by rw [decide_eq_false_iff_not]; omega) (Post.pure rfl)
theorem pairs_none (rs cs : List Int) {n : Nat} (h1 : rs.length = n) (h2 : cs.length = n) (hn : n ≤ 4194304) (h : ∀ k, k < n → Nu.brV (rs.getD k 0) = (0, 0)) : pairs_Of_F rs cs = some [] := by
  unfold pairs_Of_F pairs_Of_T
  refine Post.run (Post.bnd (closings_none rs cs h1 h2 hn h) ?_)
  rw [List.length_replicate]
  refine Post.bnd (count (L := fun s : List (Int × Int) × List Int × Int × Int => pairs_Of_L4 s.1 s.2.1 s.2.2.1 s.2.2.2) n (fun k => ([], List.replicate n 0, (n : Int), (k : Int))) (r := []) rfl (fun k hk => ?_) ?_) (Post.pure rfl)
  · dsimp only
    unfold pairs_Of_L4
    refine Post.brT (by rw [decide_eq_true_eq]; omega) (Post.idx 0 k rfl (by rw [List.length_replicate]; exact hk) (Post.brF ?_ (Post.pure (by rw [wrap_succ (by omega)]))))
    simp [List.getD, hk]
  · dsimp only
    unfold pairs_Of_L4
    exact Post.brF (by rw [decide_eq_false_iff_not]; omega) (Post.pure rfl)
theorem brackets_none (rs first cs : List Int) (l sos : Int) {n : Nat} (h1 : rs.length = n) (h2 : first.length = n) (h3 : cs.length = n) (hn : n ≤ 4194304) (h : ∀ k, k < n → Nu.brV (rs.getD k 0) = (0, 0)) : neutral_Brackets_F rs first cs l sos = some cs := by
  unfold neutral_Brackets_F neutral_Brackets_T
  refine Post.run (Post.bnd (Nu.clone_F cs (by omega)) (Post.brF (by rw [h1, h3]; simp) (Post.brF (by rw [h2, h3]; simp) (Post.bnd (pairs_none rs cs h1 h3 hn h) (Post.bnd (loopW_done (r := cs) ?_) (Post.pure rfl))))))
  dsimp only
  unfold neutral_Brackets_L5
  exact Post.run (Post.brF (by decide) (Post.pure rfl))
/-- the classes behind the rule of brackets -/
noncomputable def br (rs first cs : List Int) (l sos : Int) : List Int := (neutral_Brackets_F rs first cs l sos).getD cs
theorem br_F (rs first cs : List Int) (l sos : Int) {n : Nat} (h1 : rs.length = n) (h2 : first.length = n) (h3 : cs.length = n) (hn : n ≤ 4194304) : neutral_Brackets_F rs first cs l sos = some (br rs first cs l sos) ∧ (br rs first cs l sos).length = n := by
  obtain ⟨r, hr, hb⟩ := Nu.brackets_any rs first cs sos (Nu.emb l) h1 h2 h3 hn
  have := hb l rfl
  unfold br
  rw [this]
  exact ⟨rfl, hr⟩

/-! ### a sequence -/
/-- what lies at some places -/
def rn (xs ps : List Int) : List Int := tab ps.length fun k => xs.getD (ps.getD k 0).toNat 0
theorem rn_len (xs ps : List Int) : (rn xs ps).length = ps.length := tab_len _ _
/-- a sequence's classes behind the weak rules -/
def wk (classes : List Int) (s : Sq) : List Int := tab s.1.length (Wk.W s.1.length s.2.2.1 (fun i => (rn classes s.1).getD i 0))
/-- a sequence's classes behind all rules, of those behind the rule of brackets -/
def rsB (b : List Int) (s : Sq) : List Int := tab s.1.length (Nu.rest (Nu.fn b) s.2.2.1 s.2.2.2 (Nu.emb s.2.1) s.1.length)
noncomputable def rsv (rs classes : List Int) (s : Sq) : List Int := rsB (br (rn rs s.1) (rn classes s.1) (wk classes s) s.2.1 s.2.2.1) s
theorem rsv_len (rs classes : List Int) (s : Sq) : (rsv rs classes s).length = s.1.length := tab_len _ _
/-- a sequence as it should be -/
structure Good (n : Nat) (s : Sq) : Prop where
  few : s.1.length ≤ 4194304
  pl : ∀ k, k < s.1.length → ∃ q : Nat, s.1.getD k 0 = (q : Int) ∧ q < n
  sos : s.2.2.1 = 0 ∨ s.2.2.1 = 1
  lv : 0 ≤ s.2.1 ∧ s.2.1 ≤ 125

theorem lresolve_F (rs classes : List Int) (s : Sq) {n : Nat} (h1 : rs.length = n) (h2 : classes.length = n) (hg : Good n s) : levels_resolve_F rs classes s = some (rsv rs classes s) := by
  unfold levels_resolve_F levels_resolve_T
  have hm := hg.few
  have r0 : List.replicate s.1.length (0 : Int) = tab s.1.length (fun _ => 0) := tab_rep _ _
  refine Post.run (Post.bnd (mk_eq (k := s.1.length) rfl (by omega)) (Post.bnd (mk_eq (k := s.1.length) rfl (by omega)) ?_))
  rw [r0]
  refine Post.bnd (count (L := fun t : List Int × List Int × Sq × List Int × List Int × List Int × Int × Int => levels_resolve_L4 t.1 t.2.1 t.2.2.1 t.2.2.2.1 t.2.2.2.2.1 t.2.2.2.2.2.1 t.2.2.2.2.2.2.1 t.2.2.2.2.2.2.2) s.1.length
    (fun k => (rs, classes, s, tab s.1.length (part (fun k => rs.getD (s.1.getD k 0).toNat 0) (fun _ => 0) k), tab s.1.length (part (fun k => classes.getD (s.1.getD k 0).toNat 0) (fun _ => 0) k), s.1, (s.1.length : Int), (k : Int)))
    (r := (s, rn rs s.1, rn classes s.1)) rfl (fun k hk => ?_) ?_) ?_
  · dsimp only
    unfold levels_resolve_L4
    obtain ⟨q, hq, hqn⟩ := hg.pl k hk
    refine Post.brT (by rw [decide_eq_true_eq]; omega) (Post.idx 0 k rfl hk ?_)
    rw [hq]
    refine Post.idx 0 q rfl (by omega) (Post.idx 0 q rfl (by omega) (Post.idx 0 k rfl (by rw [tab_len]; exact hk) (Post.idx 0 k rfl (by rw [tab_len]; exact hk) (Post.pure ?_))))
    rw [wrap_succ (by omega), toNat_nat, part_set _ (by rw [hq]; rfl), part_set _ (by rw [hq]; rfl)]
  · dsimp only
    unfold levels_resolve_L4
    rw [part_end, part_end]
    exact Post.brF (by rw [decide_eq_false_iff_not]; omega) (Post.pure rfl)
  · dsimp only
    have hw := Wk.resolve_list s.2.2.1 hg.sos (rn classes s.1) (by rw [rn_len]; omega)
    rw [rn_len] at hw
    obtain ⟨hb, hbl⟩ := br_F (rn rs s.1) (rn classes s.1) (wk classes s) s.2.1 s.2.2.1 (n := s.1.length) (rn_len _ _) (rn_len _ _) (tab_len _ _) hm
    refine Nu.post_box (Post.bnd hw (Nu.post_box (Nu.post_box (Post.bnd hb (Nu.post_box (Nu.post_box (Nu.post_box (Post.bnd (Nu.rest_F _ _ _ _ (by omega)) (Post.pure ?_))))))))) 
    rw [hbl]
    rfl

/-! ### a paragraph -/
/-- the level that a class makes of a level -/
def imp (c l : Int) : Int := if l % 2 = 0 then l + (if c = 1 then 1 else if c = 6 then 2 else if c = 3 then 2 else 0) else l + (if c = 0 then 1 else if c = 6 then 1 else if c = 3 then 1 else 0)
theorem imp_F {c l : Int} (hl : 0 ≤ l ∧ l ≤ 125) : implicit_Level_F c l = some (imp c l) := Im.level_F (by omega)
theorem imp_ge (c l : Int) : l ≤ imp c l := by unfold imp; repeat' split <;> omega
def pl (s : Sq) (k : Nat) : Nat := (s.1.getD k 0).toNat
/-- the levels of a sequence's places are laid, one behind the other -/
def inner (cs : List Int) (s : Sq) (c : List Int) : Nat → List Int → List Int
  | 0, lv => lv
  | k + 1, lv => if cs.getD (pl s k) 0 = 10 then inner cs s c k lv else (inner cs s c k lv).set (pl s k) (imp (c.getD k 0) s.2.1)
theorem inner_succ (cs : List Int) (s : Sq) (c : List Int) (k : Nat) (lv : List Int) : inner cs s c (k + 1) lv = if cs.getD (pl s k) 0 = 10 then inner cs s c k lv else (inner cs s c k lv).set (pl s k) (imp (c.getD k 0) s.2.1) := rfl
theorem inner_len (cs : List Int) (s : Sq) (c : List Int) (lv : List Int) : ∀ k, (inner cs s c k lv).length = lv.length
  | 0 => rfl
  | k + 1 => by rw [inner_succ]; split; exact inner_len cs s c lv k; rw [List.length_set]; exact inner_len cs s c lv k
theorem inner_F (rs cs lv classes : List Int) (s : Sq) (L : List Sq) (a b : Int) {n : Nat} (h1 : lv.length = n) (h2 : cs.length = n) (hg : Good n s) {c : List Int} (hc : c.length = s.1.length) :
    loopW (fun t : List Int × List Int × List Int × List Int × Sq × List Sq × Int × Int × List Int × Int × Int => (levels_Paragraph_L8 t.1 t.2.1 t.2.2.1 t.2.2.2.1 t.2.2.2.2.1 t.2.2.2.2.2.1 t.2.2.2.2.2.2.1 t.2.2.2.2.2.2.2.1 t.2.2.2.2.2.2.2.2.1 t.2.2.2.2.2.2.2.2.2.1 t.2.2.2.2.2.2.2.2.2.2).run) (rs, cs, lv, classes, s, L, a, b, c, (c.length : Int), 0) = some (rs, cs, inner cs s c s.1.length lv, classes, L, a, b) := by
  have hm := hg.few
  refine count (L := fun t : List Int × List Int × List Int × List Int × Sq × List Sq × Int × Int × List Int × Int × Int => levels_Paragraph_L8 t.1 t.2.1 t.2.2.1 t.2.2.2.1 t.2.2.2.2.1 t.2.2.2.2.2.1 t.2.2.2.2.2.2.1 t.2.2.2.2.2.2.2.1 t.2.2.2.2.2.2.2.2.1 t.2.2.2.2.2.2.2.2.2.1 t.2.2.2.2.2.2.2.2.2.2) s.1.length
    (fun k => (rs, cs, inner cs s c k lv, classes, s, L, a, b, c, (c.length : Int), (k : Int))) rfl (fun k hk => ?_) ?_
  · dsimp only
    unfold levels_Paragraph_L8
    obtain ⟨q, hq, hqn⟩ := hg.pl k hk
    have hpl : pl s k = q := by unfold pl; rw [hq]; rfl
    refine Post.brT (by rw [decide_eq_true_eq]; omega) (Post.idx 0 k rfl (by omega) (Nu.post_box (Post.idx 0 k rfl hk ?_)))
    rw [hq]
    refine Post.idx 0 q rfl (by omega) (Post.br (fun e => ?_) (fun e => ?_))
    · rw [bne_iff_ne] at e
      refine Nu.post_box (Post.bnd (imp_F hg.lv) (Post.idx 0 q rfl (by rw [inner_len]; omega) (Post.pure ?_)))
      rw [wrap_succ (by omega), inner_succ, hpl, if_neg e, toNat_nat]
    · rw [bne_eq_false_iff_eq] at e
      refine Post.pure ?_
      rw [wrap_succ (by omega), inner_succ, hpl, if_pos e]
  · dsimp only
    unfold levels_Paragraph_L8
    exact Post.brF (by rw [decide_eq_false_iff_not]; omega) (Post.pure rfl)
/-- sequence behind sequence -/
def fin (cs : List Int) (f : Sq → List Int) : List Sq → List Int → List Int
  | [], lv => lv
  | s :: r, lv => fin cs f r (inner cs s (f s) s.1.length lv)
theorem fin_len (cs : List Int) (f : Sq → List Int) : ∀ (l : List Sq) (lv : List Int), (fin cs f l lv).length = lv.length
  | [], _ => rfl
  | s :: r, lv => by unfold fin; rw [fin_len cs f r, inner_len]
def pg (cs : List Int) (l : Int) : Ex.Pg := ⟨Ex.lvs cs l, cs.length, cs, l⟩
def sqs (cs : List Int) (l : Int) : List Sq := ((pg cs l).Sp (pg cs l).R).2
noncomputable def par (rs cs : List Int) (l : Int) : List Int := fin cs (rsv rs (tab cs.length (Ex.cls cs l))) (sqs cs l) (tab cs.length (Ex.lvs cs l))
theorem par_len (rs cs : List Int) (l : Int) : (par rs cs l).length = cs.length := by unfold par; rw [fin_len, tab_len]
theorem pg_ok {cs : List Int} {l : Int} (hl : 0 ≤ l ∧ l ≤ 1) (hn : cs.length ≤ 2097152) : (pg cs l).Ok := by
  refine ⟨hn, rfl, fun i => ?_⟩
  have hf := (Ex.lvs_facts cs hl i).2.1
  show Ex.lvs cs l i ≠ -5
  by_cases e : Ex.lvs cs l i = -1
  · rw [e]; omega
  · have := hf e; omega
theorem seqs_at (cs : List Int) {l : Int} (hl : 0 ≤ l ∧ l ≤ 1) (hn : cs.length ≤ 2097152) : seqs_Of_F (tab cs.length (Ex.lvs cs l)) cs l = some (sqs cs l) := Ex.seqs_F (p := pg cs l) (pg_ok hl hn)

end Go.Proofs.YtenbhmjcoljddaaDoor
