/-
  errors.Is of what the law hands it, where the target is a number of package api.
-/
import Derived.Test.YtnldcpanpojeiaaGreatDoorProg
import Derived.WalkKit
import Derived.LaidEql
import Derived.Stop.Asserts
import Derived.RowKitTokens
namespace Go.Proofs.YtnldcpanpojeiaaGreatDoor
set_option linter.all false
open Go.RowKit Go.Extern.Stop Go.Stop Go.Extern

theorem isTy (v : Value) (w : World) : (Extern.ReflectliteType.typeOf #[.iface 26 v]).run Tryz.prog w = .ok (.iface 138 (.agg #[.pointer (some ⟨2, 26, none⟩)])) w := by kernel_rfl
def cmpM : Array Value → Sem Value := Extern.ReflectliteType.method fun t => do Rtype.noPackHeld "Comparable" t; pure (.bool (← typeInfo t).comparable)
theorem isCo (w : World) : (cmpM #[.agg #[.pointer (some ⟨2, 26, none⟩)]]).run Tryz.prog w = .ok (.bool true) w := by kernel_rfl
theorem isMe (v : Value) (w : World) : (Go.method 387 138 v "Comparable").run Tryz.prog w = .ok (177, v) w := by kernel_rfl
theorem isEq (a b : Int) (w : World) : (binOp .eql 24 (.iface 26 (.int .i64 a)) (.iface 26 (.int .i64 b))).run Tryz.prog w = .ok (.bool (a == b)) w := by kernel_rfl
theorem noIsN (v : Value) (xT : TypeId) (w : World) : (Instr.typeAssert (.iface 26 v) xT 140 true).run Tryz.prog w = .ok (.tuple #[.nilIface, .bool false]) w := run_typeAssert_lacksB Tryz.underlying140 (by kernel_rfl) (by kernel_rfl) v xT w
theorem noUwN (v : Value) (xT : TypeId) (w : World) : (Instr.typeAssert (.iface 26 v) xT 143 true).run Tryz.prog w = .ok (.tuple #[.nilIface, .bool false]) w := run_typeAssert_lacksB Tryz.underlying143 (by kernel_rfl) (by kernel_rfl) v xT w
theorem noUsN (v : Value) (xT : TypeId) (w : World) : (Instr.typeAssert (.iface 26 v) xT 145 true).run Tryz.prog w = .ok (.tuple #[.nilIface, .bool false]) w := run_typeAssert_lacksB Tryz.underlying145 (by kernel_rfl) (by kernel_rfl) v xT w
theorem noIsS (v : Value) (xT : TypeId) (w : World) : (Instr.typeAssert (.iface 60 v) xT 140 true).run Tryz.prog w = .ok (.tuple #[.nilIface, .bool false]) w := run_typeAssert_lacksB Tryz.underlying140 (by kernel_rfl) (by kernel_rfl) v xT w
theorem noUwS (v : Value) (xT : TypeId) (w : World) : (Instr.typeAssert (.iface 60 v) xT 143 true).run Tryz.prog w = .ok (.tuple #[.nilIface, .bool false]) w := run_typeAssert_lacksB Tryz.underlying143 (by kernel_rfl) (by kernel_rfl) v xT w
theorem noUsS (v : Value) (xT : TypeId) (w : World) : (Instr.typeAssert (.iface 60 v) xT 145 true).run Tryz.prog w = .ok (.tuple #[.nilIface, .bool false]) w := run_typeAssert_lacksB Tryz.underlying145 (by kernel_rfl) (by kernel_rfl) v xT w
theorem noIsF (v : Value) (xT : TypeId) (w : World) : (Instr.typeAssert (.iface 52 v) xT 140 true).run Tryz.prog w = .ok (.tuple #[.nilIface, .bool false]) w := run_typeAssert_lacksB Tryz.underlying140 (by kernel_rfl) (by kernel_rfl) v xT w
theorem hasUwF (v : Value) (xT : TypeId) (w : World) : (Instr.typeAssert (.iface 52 v) xT 143 true).run Tryz.prog w = .ok (.tuple #[.iface 52 v, .bool true]) w := run_typeAssert_hasB Tryz.underlying143 (by kernel_rfl) v xT w
theorem meUwF (e : Addr) (w : World) : (Go.method 387 52 (.pointer (some e)) "Unwrap").run Tryz.prog w = .ok (170, .pointer (some e)) w := by kernel_rfl
theorem uwF (e : Addr) (v : Value) (w : World) (he : w.cell? e = some v) : Calls Tryz.prog 170 #[.pointer (some e)] w fun ev w' => ev = .returned v ∧ w' = w := by
  go_enter Tryz.func170, Tryz.ntmps170
  go_wp2
  go_ret
  exact ⟨rfl, rfl⟩

/-- what errors.Is says of an error; the number at its end (0: none that the law asks for) -/
inductive EV (w : World) : Nat → Value → Int → Prop
  | eno (n : Int) : EV w 0 (.iface 26 (.int .i64 n)) n
  | str (a : Addr) : EV w 0 (.iface 60 (.pointer (some a))) 0
  | fault {d : Nat} {v : Value} {n : Int} (a : Addr) (h : w.cell? a = some v) (hv : EV w d v n) : EV w (d + 1) (.iface 52 (.pointer (some a))) n

theorem is_nil (k : Int) (w : World) : Calls Tryz.prog 16 #[.nilIface, .iface 26 (.int .i64 k)] w fun e w' => e = .returned (.bool false) ∧ w' = w := by
  have hn := run_eql_iface_nil_left (P := Tryz.prog) w 26 (.int .i64 k) Tryz.underlying24
  go_enter Tryz.func16, Tryz.ntmps16
  go_wp2
  go_ret
  exact ⟨rfl, rfl⟩
theorem is_eno (n k : Int) (w : World) : Calls Tryz.prog 16 #[.iface 26 (.int .i64 n), .iface 26 (.int .i64 k)] w fun e w' => e = .returned (.bool (n == k)) ∧ w' = w := by
  have h8 := @run_callFunc_extern Tryz.prog 30 _ Extern.ReflectliteType.typeOf Tryz.func30 (by kernel_rfl) (by kernel_rfl) (by kernel_rfl) (by kernel_rfl)
  have h32 := @run_callFunc_extern Tryz.prog 177 _ cmpM Tryz.func177 (by kernel_rfl) (by kernel_rfl) (by kernel_rfl) (by kernel_rfl)
  have tT := isTy
  have cT := isCo
  have mR := isMe
  have a1 := noIsN
  have a2 := noUwN
  have a3 := noUsN
  have heq := isEq n k
  rcases hk : (n == k) with _ | _
  all_goals
    rw [hk] at heq
    go_enter Tryz.func16, Tryz.ntmps16
    go_wp2
    refine wp_loop_rounds 1 ?_
    rw [rounds_succ]
    go_wp2
    go_ret
    exact ⟨rfl, rfl⟩
theorem is_str (a : Addr) (k : Int) (w : World) : Calls Tryz.prog 16 #[.iface 60 (.pointer (some a)), .iface 26 (.int .i64 k)] w fun e w' => e = .returned (.bool false) ∧ w' = w := by
  have h8 := @run_callFunc_extern Tryz.prog 30 _ Extern.ReflectliteType.typeOf Tryz.func30 (by kernel_rfl) (by kernel_rfl) (by kernel_rfl) (by kernel_rfl)
  have h32 := @run_callFunc_extern Tryz.prog 177 _ cmpM Tryz.func177 (by kernel_rfl) (by kernel_rfl) (by kernel_rfl) (by kernel_rfl)
  have tT := isTy
  have cT := isCo
  have mR := isMe
  have a1 := noIsS
  have a2 := noUwS
  have a3 := noUsS
  have hty := run_eql_iface_types (P := Tryz.prog) 60 26 (.pointer (some a)) (.int .i64 k) Tryz.underlying24 (by decide) w
  go_enter Tryz.func16, Tryz.ntmps16
  go_wp2
  refine wp_loop_rounds 1 ?_
  rw [rounds_succ]
  go_wp2
  go_ret
  exact ⟨rfl, rfl⟩
set_option maxHeartbeats 4000000 in
theorem is_fault1 (a : Addr) (n k : Int) (w : World) (h : w.cell? a = some (.iface 26 (.int .i64 n))) : Calls Tryz.prog 16 #[.iface 52 (.pointer (some a)), .iface 26 (.int .i64 k)] w fun e w' => e = .returned (.bool (n == k)) ∧ w' = w := by
  have h8 := @run_callFunc_extern Tryz.prog 30 _ Extern.ReflectliteType.typeOf Tryz.func30 (by kernel_rfl) (by kernel_rfl) (by kernel_rfl) (by kernel_rfl)
  have h32 := @run_callFunc_extern Tryz.prog 177 _ cmpM Tryz.func177 (by kernel_rfl) (by kernel_rfl) (by kernel_rfl) (by kernel_rfl)
  have tT := isTy
  have cT := isCo
  have mR := isMe
  have a1 := noIsN
  have a2 := noUwN
  have a3 := noUsN
  have b1 := noIsF
  have b2 := hasUwF
  have b3 := meUwF
  have hty := run_eql_iface_types (P := Tryz.prog) 52 26 (.pointer (some a)) (.int .i64 k) Tryz.underlying24 (by decide) w
  have heq := isEq n k
  rcases hk : (n == k) with _ | _
  all_goals
    rw [hk] at heq
    go_enter Tryz.func16, Tryz.ntmps16
    go_wp2
    refine wp_loop_rounds 2 ?_
    rw [rounds_succ]
    go_wp2_with (first | (go_at_call 170; refine (uwF a _ _ h).mono ?_; rintro ev w' ⟨rfl, rfl⟩))
    rw [rounds_succ]
    go_wp2
    go_ret
    exact ⟨rfl, rfl⟩
set_option maxHeartbeats 4000000 in
theorem is_fault2 (a b : Addr) (n k : Int) (w : World) (h : w.cell? a = some (.iface 52 (.pointer (some b)))) (h2 : w.cell? b = some (.iface 26 (.int .i64 n))) : Calls Tryz.prog 16 #[.iface 52 (.pointer (some a)), .iface 26 (.int .i64 k)] w fun e w' => e = .returned (.bool (n == k)) ∧ w' = w := by
  have h8 := @run_callFunc_extern Tryz.prog 30 _ Extern.ReflectliteType.typeOf Tryz.func30 (by kernel_rfl) (by kernel_rfl) (by kernel_rfl) (by kernel_rfl)
  have h32 := @run_callFunc_extern Tryz.prog 177 _ cmpM Tryz.func177 (by kernel_rfl) (by kernel_rfl) (by kernel_rfl) (by kernel_rfl)
  have tT := isTy
  have cT := isCo
  have mR := isMe
  have a1 := noIsN
  have a2 := noUwN
  have a3 := noUsN
  have b1 := noIsF
  have b2 := hasUwF
  have b3 := meUwF
  have hty := fun p => run_eql_iface_types (P := Tryz.prog) 52 26 (.pointer (some p)) (.int .i64 k) Tryz.underlying24 (by decide) w
  have heq := isEq n k
  rcases hk : (n == k) with _ | _
  all_goals
    rw [hk] at heq
    go_enter Tryz.func16, Tryz.ntmps16
    go_wp2
    refine wp_loop_rounds 3 ?_
    rw [rounds_succ]
    go_wp2_with (first | (go_at_call 170; refine (uwF a _ _ h).mono ?_; rintro ev w' ⟨rfl, rfl⟩))
    rw [rounds_succ]
    go_wp2_with (first | (go_at_call 170; refine (uwF b _ _ h2).mono ?_; rintro ev w' ⟨rfl, rfl⟩))
    rw [rounds_succ]
    go_wp2
    go_ret
    exact ⟨rfl, rfl⟩
end Go.Proofs.YtnldcpanpojeiaaGreatDoor
