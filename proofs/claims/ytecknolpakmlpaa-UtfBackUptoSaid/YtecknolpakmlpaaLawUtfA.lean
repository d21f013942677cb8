/-
  The laws of utf: the document's examples; what a scalar is.
-/
import Derived.Test.YtecknolpakmlpaaLawUtfN
namespace Go.Proofs.Ytecknolpakmlpaa
set_option linter.all false

theorem awake01 : law01_awake_F = some true := by
  have hb : ∀ {b : List Int}, (b.all fun c => decide (0 ≤ c) && decide (c ≤ 255)) = true → Bytes b := fun h c hc => by
    have := List.all_eq_true.1 h c hc
    simpa using this
  have e1 := next_F (b := [226, 130, 65]) (hb (by decide)) (by decide) (p := 0) (by decide)
  have e2 := next_F (b := [240, 128, 128, 128]) (hb (by decide)) (by decide) (p := 0) (by decide)
  have e3 := next_F (b := [237, 160, 128]) (hb (by decide)) (by decide) (p := 0) (by decide)
  have x1 : ((decAt [226, 130, 65] 0).1, (sz [226, 130, 65] 0 : Int)) = (65533, 2) := by decide +kernel
  have x2 : ((decAt [240, 128, 128, 128] 0).1, (sz [240, 128, 128, 128] 0 : Int)) = (65533, 1) := by decide +kernel
  have x3 : ((decAt [237, 160, 128] 0).1, (sz [237, 160, 128] 0 : Int)) = (65533, 1) := by decide +kernel
  have x4 : (vals [97, 195, 169, 255] (starts [97, 195, 169, 255] [97, 195, 169, 255].length 0), ats (starts [97, 195, 169, 255] [97, 195, 169, 255].length 0)) = ([97, 233, 65533], [0, 1, 3]) := by decide +kernel
  rw [x1] at e1
  rw [x2] at e2
  rw [x3] at e3
  have e4 := (decode_F (b := [97, 195, 169, 255]) (hb (by decide)) (by decide)).trans (congrArg some x4)
  unfold law01_awake_F law01_awake_T
  exact Post.run (Post.bnd e1 (Post.bnd e2 (Post.bnd e3 (Post.bnd e4 (Post.brT rfl (Post.brT rfl (Post.brT rfl (Post.brT rfl (Post.brT rfl (Post.brT rfl (Post.brT rfl (Post.bnd (b := 233) rfl (Post.brT rfl (Post.bnd (b := 65533) rfl (Post.brT rfl (Post.brT rfl (Post.bnd (b := 3) rfl (Post.pure rfl))))))))))))))))))

end Go.Proofs.Ytecknolpakmlpaa
