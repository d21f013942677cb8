/-
  What a call of view.put does, by walks.
-/
import Derived.Test.YtcbmacpdiiehjaaDoorEvErr
import Derived.Test.YtcbmacpdiiehjaaDoorProg
import Derived.OwnWalk
import Derived.Laws.OwnMore
namespace Go.Proofs.YtcbmacpdiiehjaaDoor
set_option linter.all false
open Go.RowKit

set_option maxHeartbeats 1000000 in
theorem put_out (A : Option Addr) (n cap : Nat) (at_ wd item : Int) (w : World) (hn : n ≤ 65536) (hwd : wd = 1 ∨ wd = 2) (h : at_ < 0 ∨ (n : Int) - wd < at_) :
    Calls Tryd.prog 13 #[.slice A n cap, .int .i64 at_, .int .i64 wd, .int .i64 item] w fun e w' => e = .returned (.int .i64 n) ∧ w' = w := by
  go_enter Tryd.func13, Tryd.ntmps13
  rcases hwd with rfl | rfl
  all_goals
    by_cases h0 : at_ < 0
    · go_wp2
      go_ret
      exact ⟨rfl, rfl⟩
    · have h1 := h.resolve_left h0
      go_wp2
      all_goals (go_ret; exact ⟨rfl, rfl⟩)

set_option maxHeartbeats 2000000 in
theorem put_in1 (B rb n cap k : Nat) (item : Int) (cs : List Value) (w : World) (hn : n ≤ 65536) (h : k + 1 ≤ n) (c0 c1 c2 : Value) (h0 : w.cell? ⟨rb, k * 3, none⟩ = some c0) (h1 : w.cell? ⟨rb, k * 3 + 1, none⟩ = some c1) (h2 : w.cell? ⟨rb, k * 3 + 2, none⟩ = some c2)
   (f0 : ∀ j, w.frozen? ⟨rb, j, none⟩ = false) :
    Calls Tryd.prog 13 #[.slice (some ⟨rb, 0, none⟩) n cap, .int .i64 (k : Int), .int .i64 1, .int .i64 item] w fun e w' => e = .returned (.int .i64 (k : Int)) ∧ w' = ((w.setCell ⟨rb, k * 3, none⟩ (.slice none 0 0)).setCell ⟨rb, k * 3 + 1, none⟩ (.int .i64 item)).setCell ⟨rb, k * 3 + 2, none⟩ (.int .i64 0) := by
  go_enter Tryd.func13, Tryd.ntmps13
  go_wp2
  refine wp_loop_rounds 2 ?_
  rw [rounds_succ]
  go_wp2
  rw [rounds_succ]
  go_wp2
  go_ret
  exact ⟨rfl, rfl⟩
set_option maxHeartbeats 2000000 in
theorem put_in2 (B rb n cap k : Nat) (item : Int) (cs : List Value) (w : World) (hn : n ≤ 65536) (h : k + 2 ≤ n) (c0 c1 c2 c3 c4 c5 : Value) (h0 : w.cell? ⟨rb, k * 3, none⟩ = some c0) (h1 : w.cell? ⟨rb, k * 3 + 1, none⟩ = some c1) (h2 : w.cell? ⟨rb, k * 3 + 2, none⟩ = some c2)
   (h3 : w.cell? ⟨rb, (k + 1) * 3, none⟩ = some c3) (h4 : w.cell? ⟨rb, (k + 1) * 3 + 1, none⟩ = some c4) (h5 : w.cell? ⟨rb, (k + 1) * 3 + 2, none⟩ = some c5)
   (f0 : ∀ j, w.frozen? ⟨rb, j, none⟩ = false) :
    Calls Tryd.prog 13 #[.slice (some ⟨rb, 0, none⟩) n cap, .int .i64 (k : Int), .int .i64 2, .int .i64 item] w fun e w' => e = .returned (.int .i64 (k : Int)) ∧ w' = ((((((w.setCell ⟨rb, k * 3, none⟩ (.slice none 0 0)).setCell ⟨rb, k * 3 + 1, none⟩ (.int .i64 item)).setCell ⟨rb, k * 3 + 2, none⟩ (.int .i64 0)).setCell ⟨rb, (k + 1) * 3, none⟩ (.slice none 0 0)).setCell ⟨rb, (k + 1) * 3 + 1, none⟩ (.int .i64 item)).setCell ⟨rb, (k + 1) * 3 + 2, none⟩ (.int .i64 1)) := by
  go_enter Tryd.func13, Tryd.ntmps13
  go_wp2
  refine wp_loop_rounds 3 ?_
  rw [rounds_succ]
  go_wp2
  rw [rounds_succ]
  go_wp2
  rw [rounds_succ]
  go_wp2
  go_ret
  exact ⟨rfl, rfl⟩
end Go.Proofs.YtcbmacpdiiehjaaDoor
