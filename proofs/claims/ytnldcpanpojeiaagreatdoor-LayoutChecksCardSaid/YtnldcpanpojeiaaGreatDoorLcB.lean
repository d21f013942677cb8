/-
  layout.Refused, by walks.
-/
import Derived.Test.YtnldcpanpojeiaaGreatDoorLcA
import Derived.Test.YtnldcpanpojeiaaGreatDoorEvTold2
import Derived.Tactics
import Derived.Tactics2
import Derived.Defers
import Derived.Recover
import Derived.Laws.Pointers
import Derived.RegionTactic
import Derived.ChangeAlike
namespace Go.Proofs.YtnldcpanpojeiaaGreatDoor
set_option linter.all false
open Go.RowKit Go.Extern.Stop Go.Stop Go.Extern

theorem mkf {P : Program} (fn : Fn) (first cap : Array Value) (w : World) : (Instr.makeFunc fn first cap).run P w = .ok (.func fn first cap) w := rfl
theorem cloIdle (p q r : Addr) (w : World) : CallsD Tryz.prog 15 #[.pointer (some p), .pointer (some q), .pointer (some r)] .returning w fun e u' w' => e = .returned (.tuple #[]) ∧ u' = .returning ∧ w' = w := by
  refine callsD_of_wpS Tryz.func15 rfl fun c₀ cs hu => ?_
  apply wpS_seq
  apply wpS_region
  simp [wpOpsS, go_sem, recoverD, hu, Tryz.ntmps15, Exit.thenS]
  refine wpS_cond (t := false) (by simp [Act.eval, Array.replicate]) ?_
  simp only [Bool.false_eq_true, if_false]
  refine wpS_of_wp (wp_skip ?_)
  cases c₀
  simp_all [bodyPostS, results, Tryz.results15]

def KeepsW (w w' : World) : Prop := ∀ (ad : Addr) (x : Value), w.cell? ad = some x → w'.cell? ad = some x
theorem keep1 (w : World) (o : Go.Obj) : KeepsW w (w.alloc o) := fun ad x h => by
  rw [World.cell?_alloc_lt _ _ ad (by
    rcases Nat.lt_or_ge ad.block w.heap.size with h' | h'
    · exact h'
    · simp [World.cell?, Array.getElem?_eq_none h'] at h)]
  exact h
theorem keep3 (w : World) (a b c : Go.Obj) : KeepsW w (((w.alloc a).alloc b).alloc c) := fun ad x h => keep1 _ c ad x (keep1 _ b ad x (keep1 w a ad x h))

set_option maxHeartbeats 4000000 in
set_option maxRecDepth 100000 in
theorem ref_no (v : Value) (w : World) (h1 : ∀ w', KeepsW w w' → Calls Tryz.prog 16 #[v, .iface 26 (.int .i64 1)] w' fun e w2 => e = .returned (.bool false) ∧ w2 = w')
    (h2 : ∀ w', KeepsW w w' → Calls Tryz.prog 16 #[v, .iface 26 (.int .i64 2)] w' fun e w2 => e = .returned (.bool false) ∧ w2 = w') :
    Calls Tryz.prog 7 #[v] w fun e w' => e = .returned (.tuple #[.string ByteArray.empty, .int .i64 0, .bool false]) ∧ Below w.heap.size w w' := by
  have hmf := @mkf Tryz.prog
  go_enter_defers Tryz.func7, Tryz.ntmps7
  go_wp2_with fail
  refine (h1 _ (keep3 w _ _ _)).mono ?_
  rintro e w' ⟨rfl, rfl⟩
  go_wp2_with fail
  refine (h2 _ (keep3 w _ _ _)).mono ?_
  rintro e w' ⟨rfl, rfl⟩
  go_wp2_with fail
  refine leaves_cons (f := 15) (args := #[.pointer (some ⟨w.heap.size, 0, none⟩), .pointer (some ⟨w.heap.size + 1, 0, none⟩), .pointer (some ⟨w.heap.size + 1 + 1, 0, none⟩)]) (by simp) (by simp [go_sem]) ?_
  refine (cloIdle _ _ _ _).mono ?_
  rintro e u' w'' ⟨rfl, rfl, rfl⟩
  simp [Leaves, settle, results, Tryz.results7, go_sem]
  exact ⟨rfl, (((Below.refl _ _).alloc (Nat.le_refl _) _).alloc (by simp) _).alloc (by simp; omega) _⟩
theorem refNil (w : World) : Calls Tryz.prog 7 #[.nilIface] w fun e w' => e = .returned (.tuple #[.string ByteArray.empty, .int .i64 0, .bool false]) ∧ Below w.heap.size w w' := ref_no _ w (fun w' _ => is_nil 1 w') (fun w' _ => is_nil 2 w')
theorem refStr (a : Addr) (w : World) : Calls Tryz.prog 7 #[.iface 60 (.pointer (some a))] w fun e w' => e = .returned (.tuple #[.string ByteArray.empty, .int .i64 0, .bool false]) ∧ Below w.heap.size w w' := ref_no _ w (fun w' _ => is_str a 1 w') (fun w' _ => is_str a 2 w')
theorem refEno0 (n : Int) (h1 : n ≠ 1) (h2 : n ≠ 2) (w : World) : Calls Tryz.prog 7 #[.iface 26 (.int .i64 n)] w fun e w' => e = .returned (.tuple #[.string ByteArray.empty, .int .i64 0, .bool false]) ∧ Below w.heap.size w w' := by
  have e1 : (n == 1) = false := by simpa using h1
  have e2 : (n == 2) = false := by simpa using h2
  exact ref_no _ w (fun w' _ => by have := is_eno n 1 w'; rwa [e1] at this) (fun w' _ => by have := is_eno n 2 w'; rwa [e2] at this)
theorem refFault20 (a b : Addr) (n : Int) (h1 : n ≠ 1) (h2 : n ≠ 2) (w : World) (ha : w.cell? a = some (.iface 52 (.pointer (some b)))) (hb : w.cell? b = some (.iface 26 (.int .i64 n))) : Calls Tryz.prog 7 #[.iface 52 (.pointer (some a))] w fun e w' => e = .returned (.tuple #[.string ByteArray.empty, .int .i64 0, .bool false]) ∧ Below w.heap.size w w' := by
  have e1 : (n == 1) = false := by simpa using h1
  have e2 : (n == 2) = false := by simpa using h2
  exact ref_no _ w (fun w' hk => by have := is_fault2 a b n 1 w' (hk _ _ ha) (hk _ _ hb); rwa [e1] at this) (fun w' hk => by have := is_fault2 a b n 2 w' (hk _ _ ha) (hk _ _ hb); rwa [e2] at this)
end Go.Proofs.YtnldcpanpojeiaaGreatDoor
