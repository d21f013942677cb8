/-
  LayoutEmpty holds.
-/
import Derived.Test.YtnldcpanpojeiaaGreatDoorLoE
namespace Go.Proofs.YtnldcpanpojeiaaGreatDoor
set_option linter.all false
set_option maxRecDepth 100000

theorem two_of {α β : Type} {g : α → β} {ls : List α} {p q : β} (h : ls.map g = [p, q]) : ∃ x y : α, ls = [x, y] ∧ g x = p ∧ g y = q := by
  cases ls with
  | nil => simp at h
  | cons x l => cases l with
    | nil => simp at h
    | cons y l => cases l with
      | nil =>
        simp only [List.map_cons, List.map_nil] at h
        injection h with c1 c2
        injection c2 with c2 _
        exact ⟨x, y, rfl, c1, c2⟩
      | cons z l => simp at h
theorem one_of {α β : Type} {g : α → β} {ls : List α} {p : β} (h : ls.map g = [p]) : ∃ x : α, ls = [x] ∧ g x = p := by
  cases ls with
  | nil => simp at h
  | cons x l => cases l with
    | nil =>
      simp only [List.map_cons, List.map_nil] at h
      injection h with c1 _
      exact ⟨x, rfl, c1⟩
    | cons y l => simp at h
theorem some_not {α : Type} {o : Option α} (h : o.isNone = true) : o.isSome = false := by cases o <;> simp_all
abbrev LayT := List Int × List Int × List Int × List Int × List LnT
theorem awake_of {A B : Option (LayT × Option (Int × ByteArray × Int))} (h1 : A.map (fun r => (r.2.isNone, r.1.2.2.2.2.map (fun l => l.2.2.2.2.1))) = some (true, [[97, 98], [99]]))
    (h2 : B.map (fun r => (r.2.isNone, r.1.2.2.2.2.map (fun l => (l.2.2.1, l.2.2.2.2.1)))) = some (true, [([2, 1, 0], [1489, 41, 1488])])) :
    ∃ (a1 a2 a3 a4 b1 b2 b3 b4 : List Int) (x y z : LnT) (e1 e2 : Option (Int × ByteArray × Int)), A = some ((a1, a2, a3, a4, [x, y]), e1) ∧ B = some ((b1, b2, b3, b4, [z]), e2) ∧ e1.isSome = false ∧ e2.isSome = false ∧ x.2.2.2.2.1 = [97, 98] ∧ y.2.2.2.2.1 = [99] ∧ z.2.2.1 = [2, 1, 0] ∧ z.2.2.2.2.1 = [1489, 41, 1488] := by
  obtain ⟨⟨⟨a1, a2, a3, a4, ls1⟩, e1⟩, p1, k1⟩ := Option.map_eq_some_iff.1 h1
  obtain ⟨⟨⟨b1, b2, b3, b4, ls2⟩, e2⟩, p2, k2⟩ := Option.map_eq_some_iff.1 h2
  dsimp only at k1 k2
  injection k1 with q1 r1
  injection k2 with q2 r2
  obtain ⟨x, y, rfl, hx, hy⟩ := two_of r1
  obtain ⟨z, rfl, hz⟩ := one_of r2
  injection hz with hz1 hz2
  exact ⟨a1, a2, a3, a4, b1, b2, b3, b4, x, y, z, e1, e2, p1, p2, some_not q1, some_not q2, hx, hy, hz1, hz2⟩
theorem awake_F : law30_awake_F = some true := by
  obtain ⟨a1, a2, a3, a4, b1, b2, b3, b4, x, y, z, e1, e2, h1, h2, e1n, e2n, hx, hy, hz1, hz2⟩ := awake_of ofA ofB
  refine Post.run (t := law30_awake_T) (Post.bnd h1 (Post.bnd encB (Post.bnd h2 (Post.brF e1n (Post.brF e2n (Post.bnd rfl (Post.brF rfl (Post.bnd rfl (Post.brF rfl (Post.bnd rfl (Post.bnd rfl (Post.bnd (text_F (bs := [97, 98]) (by rw [hx]; exact encA)) (Post.brT ?_ (Post.bnd rfl (Post.bnd rfl (Post.bnd (text_F (bs := [99]) (by rw [hy]; exact encC)) (Post.brT ?_ (Post.bnd rfl (Post.bnd rfl (Post.bnd (b := true) ?_ (Post.brT rfl (Post.bnd rfl (Post.bnd rfl (Post.pure ?_))))))))))))))))))))))))
  · rw [show strOfNums [97, 98] = ByteArray.mk #[97, 98] from rfl]
    exact beq_self_eq_true _
  · rw [show strOfNums [99] = ByteArray.mk #[99] from rfl]
    exact beq_self_eq_true _
  · rw [hz1]
    exact sameB
  · rw [hz2]
    exact beq_self_eq_true _

theorem loop1 {σ ρ : Type} {f : σ → Option (Lap σ ρ)} {s : σ} {r : ρ} (h : f s = some (.done r)) : loopW f s = some r := by
  unfold loopW
  rw [show (1000000000 : Nat) = 999999999 + 1 from rfl]
  unfold loopF
  rw [h]
theorem fillE (w : Int) (hw : 1 ≤ w) : fill_Lines_F ([], []) [0] w = some ([], none) :=
  Post.run (t := fill_Lines_T ([], []) [0] w) (Post.brF (decide_eq_false (by omega)) (Post.bnd (b := 0) (by kernel_rfl) (Post.brF (by kernel_rfl) (Post.bnd (b := []) (loop1 (Post.run (Post.bnd (b := 0) (by kernel_rfl) (Post.brF (by kernel_rfl) (Post.pure rfl))))) (Post.pure rfl)))))
theorem checkE (w : Int) (hw : 1 ≤ w) : layout_Check_F (([] : List Int).length : Int) w = some none :=
  Post.run (t := layout_Check_T (([] : List Int).length : Int) w) (Post.brF (by kernel_rfl) (Post.brF (decide_eq_false (by omega)) (Post.pure rfl)))
theorem ofE (d w : Int) (hw : 1 ≤ w) (hl : levels_Of_F [] d = some (([], [], [], []), none)) : layout_Of_F [] d w = some (([], [], [], [0], []), none) := by
  refine Post.run (t := layout_Of_T [] d w) (Post.bnd (checkE w hw) (Post.brF rfl (Post.bnd decE (Post.bnd hl (Post.brF rfl (Post.bnd lbE (Post.bnd cwE (Post.bnd lcE (Post.bnd meE (Post.bnd (fillE w hw) (Post.brF rfl (Post.bnd rfl (Post.bnd rfl (Post.bnd rfl (Post.bnd baE (Post.bnd (b := []) (by rfl) (Post.bnd (loop1 (Post.run (Post.brF (by rfl) (Post.pure rfl)))) (Post.bnd rfl (Post.pure rfl)))))))))))))))))))

theorem empty_F (d w : Int) (hd : 0 ≤ d ∧ d ≤ 255) (hw : 0 ≤ w ∧ w ≤ 255) : law30_LayoutEmpty_F d w = some true := by
  have hdd : IntKind.i64.wrap (d.tmod 3) = 0 ∨ IntKind.i64.wrap (d.tmod 3) = 1 ∨ IntKind.i64.wrap (d.tmod 3) = 2 := by
    rw [Int.tmod_eq_emod_of_nonneg hd.1, wrap64 (by omega) (by omega)]; omega
  have hl : levels_Of_F [] (IntKind.i64.wrap (d.tmod 3)) = some (([], [], [], []), none) := by
    rcases hdd with e | e | e <;> rw [e]
    · exact levE0
    · exact levE1
    · exact levE2
  have hww : 1 ≤ IntKind.i64.wrap (1 + IntKind.i64.wrap w) := by
    rw [wrap64 (n := w) (by omega) (by omega), wrap64 (by omega) (by omega)]; omega
  exact Post.run (t := law30_LayoutEmpty_T d w) (Post.bnd awake_F (Post.brF rfl (Post.bnd (ofE _ _ hww hl) (Post.brT rfl (Post.bnd rfl (Post.brT rfl (Post.bnd rfl (Post.brT rfl (Post.bnd rfl (Post.brT rfl (Post.bnd rfl (Post.pure rfl))))))))))))
theorem layoutEmpty_all (x : Tys.I [.int .u8, .int .u8]) (h : WfAll [.int .u8, .int .u8] x) : law30_LayoutEmpty_F x.1 x.2.1 = some true := empty_F _ _ (wf_u8 h.1) (wf_u8 h.2.1)
end Go.Proofs.YtnldcpanpojeiaaGreatDoor
