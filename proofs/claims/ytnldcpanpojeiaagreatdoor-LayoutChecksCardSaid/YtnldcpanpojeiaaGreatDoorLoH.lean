/-
  The document's examples hold, by evaluation.
-/
import Derived.Test.YtnldcpanpojeiaaGreatDoorLoK
namespace Go.Proofs.YtnldcpanpojeiaaGreatDoor
set_option linter.all false
set_option maxRecDepth 100000

theorem two_of {α β : Type} {g : α → β} {ls : List α} {p q : β} (h : ls.map g = [p, q]) : ∃ x y : α, ls = [x, y] ∧ g x = p ∧ g y = q := by
  cases ls with
  | nil => simp at h
  | cons x l => cases l with
    | nil => simp at h
    | cons y l => cases l with
      | nil =>
        simp only [List.map_cons, List.map_nil] at h
        injection h with c1 c2
        injection c2 with c2 _
        exact ⟨x, y, rfl, c1, c2⟩
      | cons z l => simp at h
theorem one_of {α β : Type} {g : α → β} {ls : List α} {p : β} (h : ls.map g = [p]) : ∃ x : α, ls = [x] ∧ g x = p := by
  cases ls with
  | nil => simp at h
  | cons x l => cases l with
    | nil =>
      simp only [List.map_cons, List.map_nil] at h
      injection h with c1 _
      exact ⟨x, rfl, c1⟩
    | cons y l => simp at h
theorem some_not {α : Type} {o : Option α} (h : o.isNone = true) : o.isSome = false := by cases o <;> simp_all
abbrev LayT := List Int × List Int × List Int × List Int × List LnT
theorem awake_of {A B : Option (LayT × Option (Int × ByteArray × Int))} (h1 : A.map (fun r => (r.2.isNone, r.1.2.2.2.2.map (fun l => l.2.2.2.2.1))) = some (true, [[97, 98], [99]]))
    (h2 : B.map (fun r => (r.2.isNone, r.1.2.2.2.2.map (fun l => (l.2.2.1, l.2.2.2.2.1)))) = some (true, [([2, 1, 0], [1489, 41, 1488])])) :
    ∃ (a1 a2 a3 a4 b1 b2 b3 b4 : List Int) (x y z : LnT) (e1 e2 : Option (Int × ByteArray × Int)), A = some ((a1, a2, a3, a4, [x, y]), e1) ∧ B = some ((b1, b2, b3, b4, [z]), e2) ∧ e1.isSome = false ∧ e2.isSome = false ∧ x.2.2.2.2.1 = [97, 98] ∧ y.2.2.2.2.1 = [99] ∧ z.2.2.1 = [2, 1, 0] ∧ z.2.2.2.2.1 = [1489, 41, 1488] := by
  obtain ⟨⟨⟨a1, a2, a3, a4, ls1⟩, e1⟩, p1, k1⟩ := Option.map_eq_some_iff.1 h1
  obtain ⟨⟨⟨b1, b2, b3, b4, ls2⟩, e2⟩, p2, k2⟩ := Option.map_eq_some_iff.1 h2
  dsimp only at k1 k2
  injection k1 with q1 r1
  injection k2 with q2 r2
  obtain ⟨x, y, rfl, hx, hy⟩ := two_of r1
  obtain ⟨z, rfl, hz⟩ := one_of r2
  injection hz with hz1 hz2
  exact ⟨a1, a2, a3, a4, b1, b2, b3, b4, x, y, z, e1, e2, p1, p2, some_not q1, some_not q2, hx, hy, hz1, hz2⟩
theorem awake_F : law30_awake_F = some true := by
  obtain ⟨a1, a2, a3, a4, b1, b2, b3, b4, x, y, z, e1, e2, h1, h2, e1n, e2n, hx, hy, hz1, hz2⟩ := awake_of ofA ofB
  refine Post.run (t := law30_awake_T) (Post.bnd h1 (Post.bnd encB (Post.bnd h2 (Post.brF e1n (Post.brF e2n (Post.bnd rfl (Post.brF rfl (Post.bnd rfl (Post.brF rfl (Post.bnd rfl (Post.bnd rfl (Post.bnd (text_F (bs := [97, 98]) (by rw [hx]; exact encA)) (Post.brT ?_ (Post.bnd rfl (Post.bnd rfl (Post.bnd (text_F (bs := [99]) (by rw [hy]; exact encC)) (Post.brT ?_ (Post.bnd rfl (Post.bnd rfl (Post.bnd (b := true) ?_ (Post.brT rfl (Post.bnd rfl (Post.bnd rfl (Post.pure ?_))))))))))))))))))))))))
  · rw [show strOfNums [97, 98] = ByteArray.mk #[97, 98] from rfl]
    exact beq_self_eq_true _
  · rw [show strOfNums [99] = ByteArray.mk #[99] from rfl]
    exact beq_self_eq_true _
  · rw [hz1]
    exact sameB
  · rw [hz2]
    exact beq_self_eq_true _

end Go.Proofs.YtnldcpanpojeiaaGreatDoor
