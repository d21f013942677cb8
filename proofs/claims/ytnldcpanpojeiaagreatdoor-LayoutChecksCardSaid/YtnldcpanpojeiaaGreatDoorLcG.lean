/-
  LayoutChecks: its call, by a walk.
-/
import Derived.Test.YtnldcpanpojeiaaGreatDoorLcF
import Derived.Test.YtnldcpanpojeiaaGreatDoorLoH
namespace Go.Proofs.YtnldcpanpojeiaaGreatDoor
set_option linter.all false
open Go.RowKit Go.Extern.Stop Go.Stop Go.Extern

theorem awake_fun0 (o : Option Bool) (h : o = some true) : (Fun.mk [] [.v .bool] (fun _ => o)).F () = some true := h
theorem awake_fun : law30_awake_fun.F () = some true := awake_fun0 law30_awake_F awake_F
theorem awake_calls (w : World) (hla : Held w) : Calls Tryz.prog 5 #[] w fun e w' => e = .returned (.bool true) ∧ Below w.heap.size w w' := by
  refine (law30_awake_ok.calls () true awake_fun w #[] hla rfl).mono ?_
  rintro e w1 ⟨v1, rfl, hb1, hr1⟩
  have hr1 : RetRd w.heap.size w1 [.v .bool] true v1 := hr1
  exact ⟨by rw [ret_b hr1], hb1⟩

end Go.Proofs.YtnldcpanpojeiaaGreatDoor
