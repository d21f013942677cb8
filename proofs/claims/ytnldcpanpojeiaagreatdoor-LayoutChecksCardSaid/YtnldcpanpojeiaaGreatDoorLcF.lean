/-
  Small walks that LayoutChecks needs: api.Wrap, errors.New, layout.Check.
-/
import Derived.Test.YtnldcpanpojeiaaGreatDoorLcE
import Derived.Test.YtnldcpanpojeiaaGreatDoorSh
import Derived.Test.YtnldcpanpojeiaaGreatDoorEvMath
namespace Go.Proofs.YtnldcpanpojeiaaGreatDoor
set_option linter.all false
open Go.RowKit Go.Extern.Stop Go.Stop Go.Extern

abbrev bytesS : ByteArray := ByteArray.mk #[98, 121, 116, 101, 115]
abbrev widthS : ByteArray := ByteArray.mk #[119, 105, 100, 116, 104]
abbrev outerS : ByteArray := ByteArray.mk #[111, 117, 116, 101, 114]
theorem wrap_walk (v : Value) (s : ByteArray) (n : Int) (w : World) (hv : (∃ t x, v = .iface t x)) : Calls Tryz.prog 9 #[v, .string s, .int .i64 n] w fun e w' => e = .returned (.iface 52 (.pointer (some ⟨w.heap.size, 0, none⟩))) ∧ w' = w.alloc (.cells #[v, .string s, .int .i64 n] 56) := by
  obtain ⟨t, x, rfl⟩ := hv
  go_enter Tryz.func9, Tryz.ntmps9
  go_wp2
  go_ret
  exact ⟨rfl, rfl⟩
theorem new_walk (s : ByteArray) (w : World) : Calls Tryz.prog 10 #[.string s] w fun e w' => e = .returned (.iface 60 (.pointer (some ⟨w.heap.size, 0, none⟩))) ∧ w' = w.alloc (.cells #[.string s] 62) := by
  go_enter Tryz.func10, Tryz.ntmps10
  go_wp2
  go_ret
  exact ⟨rfl, rfl⟩
theorem check_long (b d : Int) (h : 1073741824 < b) (w : World) : Calls Tryz.prog 6 #[.int .i64 b, .int .i64 d] w fun e w' => e = .returned (.iface 52 (.pointer (some ⟨w.heap.size, 0, none⟩))) ∧ w' = w.alloc (.cells #[.iface 26 (.int .i64 1), .string bytesS, .int .i64 b] 56) := by
  have h1 := wrap_walk (.iface 26 (.int .i64 1)) bytesS b w ⟨_, _, rfl⟩
  go_enter Tryz.func6, Tryz.ntmps6
  go_wp2_with (first | (go_at_call 9; refine h1.mono ?_; rintro e w' ⟨rfl, rfl⟩))
  go_ret
  exact ⟨rfl, rfl⟩
theorem check_width (b d : Int) (h : ¬ 1073741824 < b) (hd : d < 1) (w : World) : Calls Tryz.prog 6 #[.int .i64 b, .int .i64 d] w fun e w' => e = .returned (.iface 52 (.pointer (some ⟨w.heap.size, 0, none⟩))) ∧ w' = w.alloc (.cells #[.iface 26 (.int .i64 2), .string widthS, .int .i64 d] 56) := by
  have h1 := wrap_walk (.iface 26 (.int .i64 2)) widthS d w ⟨_, _, rfl⟩
  go_enter Tryz.func6, Tryz.ntmps6
  go_wp2_with (first | (go_at_call 9; refine h1.mono ?_; rintro e w' ⟨rfl, rfl⟩))
  go_ret
  exact ⟨rfl, rfl⟩
theorem check_ok (b d : Int) (h : ¬ 1073741824 < b) (hd : ¬ d < 1) (w : World) : Calls Tryz.prog 6 #[.int .i64 b, .int .i64 d] w fun e w' => e = .returned .nilIface ∧ w' = w := by
  go_enter Tryz.func6, Tryz.ntmps6
  go_wp2_with fail
  go_ret
  exact ⟨rfl, rfl⟩

theorem three_cells (w : World) (x y z : Value) (t : TypeId) : (w.alloc (.cells #[x, y, z] t)).cell? ⟨w.heap.size, 0, none⟩ = some x ∧ (w.alloc (.cells #[x, y, z] t)).cell? ⟨w.heap.size, 1, none⟩ = some y ∧ (w.alloc (.cells #[x, y, z] t)).cell? ⟨w.heap.size, 2, none⟩ = some z := by
  refine ⟨?_, ?_, ?_⟩ <;> simp
theorem told_none (s : ByteArray) (a : Int) : law02_Told_F none 0 s a = some true := rfl
theorem told_some {n : Int} (h : n ≠ 0) (s : ByteArray) (a : Int) : law02_Told_F (some (n, s, a)) n s a = some true := by
  refine Post.run (t := law02_Told_T (some (n, s, a)) n s a) (Post.brF (by simpa using h) (Post.bnd rfl (Post.bnd rfl (Post.brT (by simp) (Post.brT (by simp) (Post.pure ?_))))))
  simp
theorem held_below {w w' : World} (h : Held w) (hb : Below w.heap.size w w') : Held w' := fun i c hc => by
  have h1 := h i c hc
  exact (hb.cell (Held.lt h1)).trans h1
theorem ret_b {B : Nat} {w : World} {b : Bool} {v : Value} (h : RetRd B w [.v .bool] b v) : v = .bool b := by
  obtain ⟨vs, hv, _, u, rfl, hu⟩ := h
  have hv : v = u := hv
  rw [hv]
  exact val_bool hu
theorem err_args {w : World} {b : Nat} {k n : Int} {s : ByteArray} (c0 : w.cell? ⟨b, 0, none⟩ = some (.iface 26 (.int .i64 k))) (c1 : w.cell? ⟨b, 1, none⟩ = some (.string s)) (c2 : w.cell? ⟨b, 2, none⟩ = some (.int .i64 n)) (a c : Int) (q : ByteArray) :
    ArgsRd w [.err 52 26, .int .i64, .str, .int .i64] (some (k, s, n), a, q, c, ()) [.iface 52 (.pointer (some ⟨b, 0, none⟩)), .int .i64 a, .string q, .int .i64 c] :=
  ⟨_, _, rfl, ⟨[.iface 52 (.pointer (some ⟨b, 0, none⟩))], by unfold Rd; exact ⟨⟨b, 0, none⟩, rfl, fun h => h, cell_lt9 c0, c0, c1, c2⟩, rfl⟩, _, _, rfl, int_val _ _, _, _, rfl, ⟨_, by unfold Rd; rfl, rfl⟩, _, _, rfl, int_val _ _, rfl⟩
theorem nil_args (w : World) (a c : Int) (q : ByteArray) : ArgsRd w [.err 52 26, .int .i64, .str, .int .i64] (none, a, q, c, ()) [.nilIface, .int .i64 a, .string q, .int .i64 c] :=
  ⟨_, _, rfl, ⟨[.nilIface], by unfold Rd; rfl, rfl⟩, _, _, rfl, int_val _ _, _, _, rfl, ⟨_, by unfold Rd; rfl, rfl⟩, _, _, rfl, int_val _ _, rfl⟩
theorem told_hit {k : Int} (hk : k ≠ 0) (b : Nat) (s : ByteArray) (n : Int) (w : World) (hla : Held w) (c0 : w.cell? ⟨b, 0, none⟩ = some (.iface 26 (.int .i64 k))) (c1 : w.cell? ⟨b, 1, none⟩ = some (.string s)) (c2 : w.cell? ⟨b, 2, none⟩ = some (.int .i64 n)) :
    Calls Tryz.prog 8 #[.iface 52 (.pointer (some ⟨b, 0, none⟩)), .int .i64 k, .string s, .int .i64 n] w fun e w' => e = .returned (.bool true) ∧ Below w.heap.size w w' := by
  have ht : law02_Told_fun.F (some (k, s, n), k, s, n, ()) = some true := told_some hk s n
  refine (law02_Told_ok.calls (some (k, s, n), k, s, n, ()) true ht w #[.iface 52 (.pointer (some ⟨b, 0, none⟩)), .int .i64 k, .string s, .int .i64 n] hla (err_args c0 c1 c2 _ _ _)).mono ?_
  rintro e w1 ⟨v1, rfl, hb1, hr1⟩
  have hr1 : RetRd w.heap.size w1 [.v .bool] true v1 := hr1
  exact ⟨by rw [ret_b hr1], hb1⟩
theorem told_nil (s : ByteArray) (n : Int) (w : World) (hla : Held w) : Calls Tryz.prog 8 #[.nilIface, .int .i64 0, .string s, .int .i64 n] w fun e w' => e = .returned (.bool true) ∧ Below w.heap.size w w' := by
  have ht : law02_Told_fun.F (none, 0, s, n, ()) = some true := told_none s n
  refine (law02_Told_ok.calls (none, 0, s, n, ()) true ht w #[.nilIface, .int .i64 0, .string s, .int .i64 n] hla (nil_args w _ _ _)).mono ?_
  rintro e w1 ⟨v1, rfl, hb1, hr1⟩
  have hr1 : RetRd w.heap.size w1 [.v .bool] true v1 := hr1
  exact ⟨by rw [ret_b hr1], hb1⟩
end Go.Proofs.YtnldcpanpojeiaaGreatDoor
