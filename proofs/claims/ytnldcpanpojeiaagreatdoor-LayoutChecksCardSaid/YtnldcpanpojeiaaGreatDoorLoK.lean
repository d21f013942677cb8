/-
  What the law of empty texts comes to, by evaluation.
-/
import Derived.Test.YtnldcpanpojeiaaGreatDoorSh
import Derived.Test.YtnldcpanpojeiaaGreatDoorEvMath
namespace Go.Proofs.YtnldcpanpojeiaaGreatDoor
set_option linter.all false
set_option maxRecDepth 100000

theorem ofA : (layout_Of_F [97, 98, 99] 0 2).map (fun r => (r.2.isNone, r.1.2.2.2.2.map (fun l => l.2.2.2.2.1))) = some (true, [[97, 98], [99]]) := by kernel_rfl
theorem encB : utf_Encode_F [1488, 40, 1489] = some [215, 144, 40, 215, 145] := by kernel_rfl
theorem ofB : (layout_Of_F [215, 144, 40, 215, 145] 0 9).map (fun r => (r.2.isNone, r.1.2.2.2.2.map (fun l => (l.2.2.1, l.2.2.2.2.1)))) = some (true, [([2, 1, 0], [1489, 41, 1488])]) := by kernel_rfl
theorem encA : utf_Encode_F [97, 98] = some [97, 98] := by kernel_rfl
theorem encC : utf_Encode_F [99] = some [99] := by kernel_rfl
theorem sameB : law25_Same_F [2, 1, 0] [2, 1, 0] = some true := by kernel_rfl
abbrev LnT := (Int × Int × Bool × Bool) × List Int × List Int × List Int × List Int × List Int × List Int × Int × List Int
theorem text_F {l : LnT} {bs : List Int} (h : utf_Encode_F l.2.2.2.2.1 = some bs) : layout_Line_Text_F l = some bs := Post.run (t := layout_Line_Text_T l) (Post.bnd h (Post.pure rfl))

end Go.Proofs.YtnldcpanpojeiaaGreatDoor
