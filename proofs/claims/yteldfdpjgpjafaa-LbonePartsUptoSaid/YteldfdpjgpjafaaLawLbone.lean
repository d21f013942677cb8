/-
  The laws of lbone return true: what a class counts as.
-/
import Derived.Test.YteldfdpjgpjafaaSh
import Derived.Test.YteldfdpjgpjafaaEvMath
namespace Go.Proofs.Yteldfdpjgpjafaa

def cl (c : Int) : Int := if c = 39 ∨ c = 41 ∨ c = 0 ∨ c = 40 then 1 else if c = 42 then 18 else c
theorem class_F (c : Int) : lbone_Class_F c = some (cl c) := by
  unfold lbone_Class_F lbone_Class_T cl
  simp only [Tr.run_br, Tr.run_pure]
  repeat' split
  all_goals (simp_all; try omega)
theorem lclass_F (c : Int) : law19_class_F c = some (cl c) := by
  unfold law19_class_F law19_class_T cl
  simp only [Tr.run_br, Tr.run_pure]
  repeat' split
  all_goals (simp_all; try omega)
theorem cl_cl (c : Int) : cl (cl c) = cl c := by
  unfold cl
  repeat' split
  all_goals omega

def isM (cs ws : List Int) (k : Nat) : Bool := cs.getD k 0 == 3 || cs.getD k 0 == 4 || (cs.getD k 0 == 40 && decide (k < ws.length) && ws.getD k 0 == 0)
theorem isMark_F (cs ws : List Int) (k : Nat) (hk : k < cs.length) : lbone_isMark_F cs ws (k : Int) = some (isM cs ws k) := by
  unfold lbone_isMark_F lbone_isMark_T isM
  refine Post.run (Post.idx 0 k rfl hk ?_)
  generalize cs.getD k 0 = c
  refine Post.br (fun h => Post.pure (by simp at h; simp [h])) (fun h => Post.br (fun h2 => Post.pure (by simp at h2; simp [h2])) (fun h2 => Post.br (fun h3 => Post.br (fun h4 => ?_) (fun h4 => Post.pure ?_)) (fun h3 => Post.pure ?_)))
  · have h4 : k < ws.length := by simpa using h4
    refine Post.idx 0 k rfl h4 (Post.pure ?_)
    simp at h h2 h3
    simp [h3, h4]
  · simp at h h2 h3 h4
    simp [h3]; omega
  · simp at h h2 h3
    simp [h, h2, h3]
theorem mark_F (cs ws : List Int) (k : Nat) (hk : k < cs.length) : law19_mark_F cs ws (k : Int) = some (isM cs ws k) := by
  unfold law19_mark_F law19_mark_T isM
  refine Post.run (Post.idx 0 k rfl hk ?_)
  refine Post.br (fun h => Post.pure (by simp only [h]; rfl)) (fun h => Post.idx 0 k rfl hk (Post.br (fun h2 => Post.pure (by simp only [h2, Bool.or_true]; rfl)) (fun h2 => Post.idx 0 k rfl hk (Post.br (fun h3 => Post.br (fun h4 => ?_) (fun h4 => Post.pure ?_)) (fun h3 => Post.pure ?_)))))
  · have h4 : k < ws.length := by simpa using h4
    refine Post.idx 0 k rfl h4 (Post.pure ?_)
    simp only [h, h2, h3, Bool.false_or, Bool.true_and, decide_eq_true h4]
  · have h4 : ¬ k < ws.length := by simpa using h4
    simp only [h, h2, h3, Bool.false_or, Bool.true_and, decide_eq_false h4, Bool.false_and]
  · simp only [h, h2, h3, Bool.false_or, Bool.false_and]

def tk (c : Int) : Bool := !(c == 5 || c == 6 || c == 7 || c == 8 || c == 9 || c == 10)
theorem takes_F (c : Int) : lbone_takesMarks_F c = some (tk c) := by
  unfold lbone_takesMarks_F lbone_takesMarks_T tk
  simp only [Tr.run_br, Tr.run_pure]
  repeat' split
  all_goals simp_all
theorem apart_F (c : Int) : law19_apart_F c = some (!tk c) := by
  unfold law19_apart_F law19_apart_T tk
  simp only [Tr.run_br, Tr.run_pure]
  repeat' split
  all_goals simp_all

abbrev U := Int × Int × Int × Bool
/-- the units of so many scalars, the last one first -/
def unitsR (cs ws : List Int) : Nat → List U
  | 0 => []
  | k + 1 => match unitsR cs ws k with
    | [] => [((k : Int), (k : Int) + 1, if isM cs ws k then 1 else cl (cs.getD k 0), cs.getD k 0 == 4)]
    | u :: r => if isM cs ws k && tk u.2.2.1 then (u.1, (k : Int) + 1, u.2.2.1, cs.getD k 0 == 4) :: r
      else ((k : Int), (k : Int) + 1, if isM cs ws k then 1 else cl (cs.getD k 0), cs.getD k 0 == 4) :: u :: r

theorem unitsR_len (cs ws : List Int) : ∀ k, (unitsR cs ws k).length ≤ k
  | 0 => Nat.le_refl _
  | k + 1 => by
    have ih := unitsR_len cs ws k
    unfold unitsR
    split
    · simp
    · rename_i u r h
      rw [h] at ih
      split <;> simp only [List.length_cons] at ih ⊢ <;> omega

theorem units_F (cs ws : List Int) (hn : cs.length ≤ 4194304) : lbone_Units_F cs ws = some (unitsR cs ws cs.length).reverse := by
  unfold lbone_Units_F lbone_Units_T
  refine Post.run (Post.bnd (count (L := fun s : List Int × List Int × (List (Int × Int × Int × Bool)) × Int × Int => lbone_Units_L3 s.1 s.2.1 s.2.2.1 s.2.2.2.1 s.2.2.2.2) cs.length
    (fun k => (cs, ws, (unitsR cs ws k).reverse, (cs.length : Int), (k : Int))) rfl (fun k hk => ?_) ?_) (Post.pure rfl))
  · dsimp only
    unfold lbone_Units_L3
    have hadd : IntKind.i64.wrap ((k : Int) + 1) = ((k + 1 : Nat) : Int) := by rw [wrap64 (by omega) (by omega)]; omega
    have hlen := unitsR_len cs ws k
    rw [hadd]
    refine Post.brT (by simpa using hk) (Post.bnd (isMark_F cs ws k hk) (Post.idx 0 k rfl hk ?_))
    generalize hm : isM cs ws k = m
    have fresh : ∀ v : Int, v = (if m then 1 else cl (cs.getD k 0)) → ∀ R : List U, (m = false ∨ R = [] ∨ ∃ u r, R = u :: r ∧ tk u.2.2.1 = false) → unitsR cs ws k = R →
        Post (Tr.bnd (app 5864062014805 R.reverse [((k : Int), ((k + 1 : Nat) : Int), v, cs.getD k 0 == 4)]) fun r => (Tr.pure (Lap.next (cs, ws, r, (cs.length : Int), ((k + 1 : Nat) : Int))) : Tr (Lap (List Int × List Int × (List U) × Int × Int) (List U)))) (· = Lap.next (cs, ws, (unitsR cs ws (k + 1)).reverse, (cs.length : Int), ((k + 1 : Nat) : Int))) := by
      intro v hv R hR he
      rw [he] at hlen
      refine Post.bnd (app_eq (by simp; omega)) (Post.pure ?_)
      have : unitsR cs ws (k + 1) = ((k : Int), ((k + 1 : Nat) : Int), v, cs.getD k 0 == 4) :: R := by
        unfold unitsR
        rw [he, hm]
        cases R with
        | nil => simp [hv]
        | cons u r =>
          have : (m && tk u.2.2.1) = false := by
            rcases hR with h | h | ⟨u', r', h, h2⟩
            · rw [h]; rfl
            · cases h
            · cases h; rw [h2, Bool.and_false]
          simp [this, hv]
      rw [this, List.reverse_cons]
    cases m with
    | false =>
      refine Post.brF rfl (Post.idx 0 k rfl hk (Post.bnd (class_F _) (Post.brF rfl ?_)))
      exact fresh _ (by simp) _ (.inl rfl) rfl
    | true =>
      refine Post.brT rfl ?_
      cases hR : unitsR cs ws k with
      | nil =>
        refine Post.brF (by rfl) (Post.idx 0 k rfl hk (Post.bnd (class_F _) (Post.brT rfl ?_)))
        exact fresh 1 (by simp) [] (.inr (.inl rfl)) hR
      | cons u r =>
        rw [hR] at hlen
        have hl : ((u :: r).reverse.length : Int) = (r.length : Int) + 1 := by simp
        have hw : IntKind.i64.wrap (((u :: r).reverse.length : Int) - 1) = (r.length : Int) := by
          simp only [List.length_cons] at hlen
          rw [hl, wrap64 (by omega) (by omega)]; omega
        have hlast : (u :: r).reverse.getD r.length (0, 0, 0, false) = u := by
          rw [List.reverse_cons, List.getD_eq_getElem?_getD, List.getElem?_append_right (by simp)]; simp
        rw [hw]
        refine Post.brT (by simp) (Post.idx (0, 0, 0, false) r.length rfl (by simp) ?_)
        rw [hlast]
        refine Post.bnd (takes_F _) (Post.br (fun h => ?_) (fun h => ?_))
        · refine Post.idx (0, 0, 0, false) r.length rfl (by simp) (Post.idx (0, 0, 0, false) r.length rfl (by simp) ?_)
          rw [hlast]
          refine Post.idx (0, 0, 0, false) r.length rfl (by simp) (Post.idx (0, 0, 0, false) r.length rfl (by simp) (Post.pure ?_))
          have hset : ∀ a : U, ((u :: r).reverse).set r.length a = (a :: r).reverse := fun a => by
            rw [List.reverse_cons, List.reverse_cons, List.set_append]; simp
          have hlast' : ∀ a : U, (a :: r).reverse.getD r.length (0, 0, 0, false) = a := fun a => by
            rw [List.reverse_cons, List.getD_eq_getElem?_getD, List.getElem?_append_right (by simp)]; simp
          have hset' : ∀ a b : U, ((a :: r).reverse).set r.length b = (b :: r).reverse := fun a b => by
            rw [List.reverse_cons, List.reverse_cons, List.set_append]; simp
          rw [Int.toNat_natCast, hset, hlast', hset']
          have : unitsR cs ws (k + 1) = (u.1, ((k + 1 : Nat) : Int), u.2.2.1, cs.getD k 0 == 4) :: r := by
            unfold unitsR
            rw [hR, hm]
            dsimp only
            rw [h]; rfl
          rw [this]
        · refine Post.idx 0 k rfl hk (Post.bnd (class_F _) (Post.brT rfl ?_))
          exact fresh 1 (by simp) _ (.inr (.inr ⟨u, r, rfl, h⟩)) hR
  · dsimp only
    unfold lbone_Units_L3
    exact Post.brF (by simp) (Post.pure rfl)

theorem awake19 : law19_awake_F = some true := by
  unfold law19_awake_F law19_awake_T
  have e : (unitsR [1, 3, 4, 9, 3] [] 5).reverse = [(0, 3, 1, true), (3, 4, 9, false), (4, 5, 1, false)] := by decide
  have h : lbone_Units_F [1, 3, 4, 9, 3] [] = some [(0, 3, 1, true), (3, 4, 9, false), (4, 5, 1, false)] := by
    rw [units_F [1, 3, 4, 9, 3] [] (by simp)]; exact congrArg some e
  exact Post.run (Post.bnd h (Post.brT rfl (Post.idx (0, 0, 0, false) 0 rfl (by simp) (Post.brT rfl (Post.idx (0, 0, 0, false) 1 rfl (by simp) (Post.brT rfl (Post.idx (0, 0, 0, false) 2 rfl (by simp) (Post.pure rfl))))))))

theorem lboneClass_F (n : Int) : law19_LboneClass_F n = some true := by
  unfold law19_LboneClass_F law19_LboneClass_T
  refine Post.run (Post.bnd awake19 (Post.brF rfl (Post.bnd (class_F n) (Post.bnd (lclass_F n) (Post.brT (by simp) (Post.bnd (class_F n) (Post.bnd (class_F _) (Post.bnd (class_F n) (Post.pure ?_)))))))))
  rw [cl_cl]; simp

theorem lboneClass_all (x : Tys.I [.int .u8]) (_h : WfAll [.int .u8] x) : law19_LboneClass_F x.1 = some true := lboneClass_F _

theorem classes_F (ns : List Int) (hn : ns.length ≤ 2097152) (h8 : ∀ n ∈ ns, 0 ≤ n ∧ n ≤ 255) : law19_Classes_F ns = some (tab ns.length fun i => (ns.getD i 0) % 43) := by
  unfold law19_Classes_F law19_Classes_T
  refine Post.run (Post.bnd (count (L := fun s : List Int × List Int × Int => law19_Classes_L3 s.1 s.2.1 s.2.2) ns.length (fun k => (ns, tab k (fun i => (ns.getD i 0) % 43), (k : Int))) rfl (fun k hk => ?_) ?_) (Post.pure rfl))
  · have hm : 0 ≤ ns.getD k 0 ∧ ns.getD k 0 ≤ 255 := by
      refine h8 _ ?_
      simp [List.getD, hk]
    have hadd : IntKind.i64.wrap ((k : Int) + 1) = ((k + 1 : Nat) : Int) := by rw [wrap64 (by omega) (by omega)]; omega
    dsimp only
    unfold law19_Classes_L3
    refine Post.brT (by simpa using hk) (Post.idx 0 k rfl hk ?_)
    rw [hadd]
    refine Post.bnd (app_eq (by rw [tab_len]; simp; omega)) (Post.pure ?_)
    rw [Int.tmod_eq_emod_of_nonneg hm.1, ← tab_succ]
  · dsimp only
    unfold law19_Classes_L3
    exact Post.brF (by simp) (Post.pure rfl)

end Go.Proofs.Yteldfdpjgpjafaa
