/-
  The function that wraps an error: what its walk says, as a plain function.
-/
import Derived.Test.YtnldcpanpojeiaaGreatDoorEvMainO
namespace Go.Proofs.YtnldcpanpojeiaaGreatDoor
open Go.RowKit
theorem wrap_ok {P : Program} {f tf te tF : Nat} (hruns : ∃ fn c, P.funcs[f]? = some fn ∧ (fn.name == "runtime.NumGoroutine") = false ∧ fn.body = some c)
    (hwalk : ∀ (k n : Int) (s : ByteArray) (w : World), Calls P f #[.iface te (.int .i64 k), .string s, .int .i64 n] w fun r w' => r = .returned (.iface tf (.pointer (some ⟨w.heap.size, 0, none⟩))) ∧ w' = w.alloc (.cells #[.iface te (.int .i64 k), .string s, .int .i64 n] tF)) :
    FunOk P f ⟨[.eno te, .str, .int .i64], [.v (.err tf te)], fun x => some (some (x.1, x.2.1, x.2.2.1))⟩ := by
  refine ⟨hruns, fun x r hr w args _ hargs => ?_⟩
  cases hr
  obtain ⟨k, s, n, u⟩ := x
  obtain ⟨v1, r1, e1, h1, v2, r2, e2, h2, v3, r3, e3, h3, e4⟩ := hargs
  have a1 : v1 = Value.iface te (.int .i64 k) := by obtain ⟨cs, k1, k2⟩ := h1; unfold Rd at k1; subst k1; exact k2
  have a2 := val_str h2
  have a3 := val_int h3
  have hall : args = #[Value.iface te (.int .i64 k), Value.string s, Value.int .i64 n] := by
    apply Array.toList_inj.1
    rw [e1, e2, e3, e4, a1, a2, a3]
  subst hall
  refine (hwalk k n s w).mono fun e w' hp => ?_
  obtain ⟨rfl, rfl⟩ := hp
  refine ⟨_, rfl, ⟨rfl, rfl, rfl, by simp, fun k hk => Below.heap_alloc w _ k hk⟩, [.iface tf (.pointer (some ⟨w.heap.size, 0, none⟩))], rfl, List.nodup_nil, _, rfl, [.iface tf (.pointer (some ⟨w.heap.size, 0, none⟩))], ?_, rfl⟩
  have hb : ∀ o : Go.Obj, (w.alloc o).heap[w.heap.size]? = some o := fun o => by simp only [World.alloc]; exact Array.getElem?_push_size
  unfold Rd
  refine ⟨⟨w.heap.size, 0, none⟩, rfl, ?_, by simp, ?_, ?_, ?_⟩
  · rintro (h | ⟨_, h⟩)
    · cases h
    · exact absurd h (Nat.lt_irrefl _)
  · show (match (w.alloc _).heap[w.heap.size]? with | some (.cells c _ _) => _ | _ => none) = _
    rw [hb]; rfl
  · show (match (w.alloc _).heap[w.heap.size]? with | some (.cells c _ _) => _ | _ => none) = _
    rw [hb]; rfl
  · show (match (w.alloc _).heap[w.heap.size]? with | some (.cells c _ _) => _ | _ => none) = _
    rw [hb]; rfl
end Go.Proofs.YtnldcpanpojeiaaGreatDoor
