/-
  layout.Refused of what tells of a limit, by walks.
-/
import Derived.Test.YtnldcpanpojeiaaGreatDoorLcB
import Derived.Test.YtnldcpanpojeiaaGreatDoorLcC
namespace Go.Proofs.YtnldcpanpojeiaaGreatDoor
set_option linter.all false
open Go.RowKit Go.Extern.Stop Go.Stop Go.Extern

theorem cell_lt9 {w : World} {a : Addr} {v : Value} (h : w.cell? a = some v) : a.block < w.heap.size := by
  rcases Nat.lt_or_ge a.block w.heap.size with h' | h'
  · exact h'
  · simp [World.cell?, Array.getElem?_eq_none h'] at h
theorem frozen_blk {w w' : World} {b i : Nat} (h : w'.heap[b]? = w.heap[b]?) : w'.frozen? ⟨b, i, none⟩ = w.frozen? ⟨b, i, none⟩ := by
  unfold World.frozen?
  rw [h]

theorem c_new (w : World) (v : Value) (e : TypeId) : (w.alloc (.cells #[v] e)).cell? ⟨w.heap.size, 0, none⟩ = some v := by simp
theorem z_new (w : World) (v : Value) (e : TypeId) : (w.alloc (.cells #[v] e)).frozen? ⟨w.heap.size, 0, none⟩ = false := by simp
theorem c_old {w : World} {v : Value} {a : Addr} (o : Go.Obj) (h : w.cell? a = some v) : (w.alloc o).cell? a = some v := keep1 w o a v h
theorem z_old {w : World} {a : Addr} (o : Go.Obj) (h : a.block < w.heap.size) (hz : w.frozen? a = false) : (w.alloc o).frozen? a = false := by
  rw [World.frozen?_alloc_old _ _ a (Nat.ne_of_lt h)]; exact hz
theorem new_cells (w : World) (v0 v1 v2 v3 : Value) (e0 e1 e2 e3 : TypeId) : let W := (((w.alloc (.cells #[v0] e0)).alloc (.cells #[v1] e1)).alloc (.cells #[v2] e2)).alloc (.cells #[v3] e3)
    (W.cell? ⟨w.heap.size, 0, none⟩ = some v0 ∧ W.frozen? ⟨w.heap.size, 0, none⟩ = false) ∧ (W.cell? ⟨w.heap.size + 1, 0, none⟩ = some v1 ∧ W.frozen? ⟨w.heap.size + 1, 0, none⟩ = false) ∧ (W.cell? ⟨w.heap.size + 1 + 1, 0, none⟩ = some v2 ∧ W.frozen? ⟨w.heap.size + 1 + 1, 0, none⟩ = false) ∧
    (W.cell? ⟨w.heap.size + 1 + 1 + 1, 0, none⟩ = some v3 ∧ W.frozen? ⟨w.heap.size + 1 + 1 + 1, 0, none⟩ = false) := by
  intro W
  have s1 : (w.alloc (.cells #[v0] e0)).heap.size = w.heap.size + 1 := World.size_alloc _ _
  have s2 : ((w.alloc (.cells #[v0] e0)).alloc (.cells #[v1] e1)).heap.size = w.heap.size + 1 + 1 := by rw [World.size_alloc, s1]
  have s3 : (((w.alloc (.cells #[v0] e0)).alloc (.cells #[v1] e1)).alloc (.cells #[v2] e2)).heap.size = w.heap.size + 1 + 1 + 1 := by rw [World.size_alloc, s2]
  have c1 := c_new (w.alloc (.cells #[v0] e0)) v1 e1
  have z1 := z_new (w.alloc (.cells #[v0] e0)) v1 e1
  have c2 := c_new ((w.alloc (.cells #[v0] e0)).alloc (.cells #[v1] e1)) v2 e2
  have z2 := z_new ((w.alloc (.cells #[v0] e0)).alloc (.cells #[v1] e1)) v2 e2
  have c3 := c_new (((w.alloc (.cells #[v0] e0)).alloc (.cells #[v1] e1)).alloc (.cells #[v2] e2)) v3 e3
  have z3 := z_new (((w.alloc (.cells #[v0] e0)).alloc (.cells #[v1] e1)).alloc (.cells #[v2] e2)) v3 e3
  rw [s1] at c1 z1
  rw [s2] at c2 z2
  rw [s3] at c3 z3
  exact ⟨⟨c_old _ (c_old _ (c_old _ (c_new w v0 e0))), z_old _ (by rw [s3]; show w.heap.size < _; omega) (z_old _ (by rw [s2]; show w.heap.size < _; omega) (z_old _ (by rw [s1]; show w.heap.size < _; omega) (z_new w v0 e0)))⟩,
    ⟨c_old _ (c_old _ c1), z_old _ (by rw [s3]; show w.heap.size + 1 < _; omega) (z_old _ (by rw [s2]; show w.heap.size + 1 < _; omega) z1)⟩, ⟨c_old _ c2, z_old _ (by rw [s3]; show w.heap.size + 1 + 1 < _; omega) z2⟩, c3, z3⟩
theorem hit_facts (b : Nat) (s : ByteArray) (n : Int) (w w' : World) (hs : w.cell? ⟨b, 1, none⟩ = some (.string s)) (hn : w.cell? ⟨b, 2, none⟩ = some (.int .i64 n)) (hB : Below (w.heap.size + 1 + 1 + 1) ((((w.alloc (.cells #[.string { data := #[] }] 9)).alloc (.cells #[.int .i64 0] 3)).alloc (.cells #[.bool false] 4)).alloc (.cells #[.pointer none] 52)) w') :
    (w'.cell? ⟨w.heap.size, 0, none⟩ = some (.string { data := #[] }) ∧ w'.frozen? ⟨w.heap.size, 0, none⟩ = false) ∧ (w'.cell? ⟨w.heap.size + 1, 0, none⟩ = some (.int .i64 0) ∧ w'.frozen? ⟨w.heap.size + 1, 0, none⟩ = false) ∧
    (w'.cell? ⟨w.heap.size + 1 + 1, 0, none⟩ = some (.bool false) ∧ w'.frozen? ⟨w.heap.size + 1 + 1, 0, none⟩ = false) ∧ w'.cell? ⟨b, 1, none⟩ = some (.string s) ∧ w'.cell? ⟨b, 2, none⟩ = some (.int .i64 n) ∧ Below w.heap.size w w' := by
  have hA : Below w.heap.size w ((((w.alloc (.cells #[.string { data := #[] }] 9)).alloc (.cells #[.int .i64 0] 3)).alloc (.cells #[.bool false] 4)).alloc (.cells #[.pointer none] 52)) := ((((Below.refl _ _).alloc (Nat.le_refl _) _).alloc (by simp) _).alloc (by simp; omega) _).alloc (by simp; omega) _
  have l1 := cell_lt9 hs
  have l2 := cell_lt9 hn
  have hBB := hA.trans (hB.mono (by omega : w.heap.size ≤ w.heap.size + 1 + 1 + 1))
  obtain ⟨⟨p0, q0⟩, ⟨p1, q1⟩, ⟨p2, q2⟩, _⟩ := new_cells w (.string { data := #[] }) (.int .i64 0) (.bool false) (.pointer none) 9 3 4 52
  exact ⟨⟨(hB.cell (by show w.heap.size < _; omega)).trans p0, (frozen_blk (hB.block _ (by omega))).trans q0⟩, ⟨(hB.cell (by show w.heap.size + 1 < _; omega)).trans p1, (frozen_blk (hB.block _ (by omega))).trans q1⟩,
    ⟨(hB.cell (by show w.heap.size + 1 + 1 < _; omega)).trans p2, (frozen_blk (hB.block _ (by omega))).trans q2⟩, (hBB.cell l1).trans hs, (hBB.cell l2).trans hn, hBB⟩

theorem no_facts (w w' : World) (hB' : Below ((((w.alloc (.cells #[.string { data := #[] }] 9)).alloc (.cells #[.int .i64 0] 3)).alloc (.cells #[.bool false] 4)).alloc (.cells #[.pointer none] 52)).heap.size ((((w.alloc (.cells #[.string { data := #[] }] 9)).alloc (.cells #[.int .i64 0] 3)).alloc (.cells #[.bool false] 4)).alloc (.cells #[.pointer none] 52)) w') :
    (w'.cell? ⟨w.heap.size, 0, none⟩ = some (.string { data := #[] }) ∧ w'.frozen? ⟨w.heap.size, 0, none⟩ = false) ∧ (w'.cell? ⟨w.heap.size + 1, 0, none⟩ = some (.int .i64 0) ∧ w'.frozen? ⟨w.heap.size + 1, 0, none⟩ = false) ∧
    (w'.cell? ⟨w.heap.size + 1 + 1, 0, none⟩ = some (.bool false) ∧ w'.frozen? ⟨w.heap.size + 1 + 1, 0, none⟩ = false) ∧ Below w.heap.size w w' := by
  have hB : Below (w.heap.size + 1 + 1 + 1) ((((w.alloc (.cells #[.string { data := #[] }] 9)).alloc (.cells #[.int .i64 0] 3)).alloc (.cells #[.bool false] 4)).alloc (.cells #[.pointer none] 52)) w' := hB'.mono (by simp)
  have hA : Below w.heap.size w ((((w.alloc (.cells #[.string { data := #[] }] 9)).alloc (.cells #[.int .i64 0] 3)).alloc (.cells #[.bool false] 4)).alloc (.cells #[.pointer none] 52)) := ((((Below.refl _ _).alloc (Nat.le_refl _) _).alloc (by simp) _).alloc (by simp; omega) _).alloc (by simp; omega) _
  have hBB := hA.trans (hB.mono (by omega : w.heap.size ≤ w.heap.size + 1 + 1 + 1))
  obtain ⟨⟨p0, q0⟩, ⟨p1, q1⟩, ⟨p2, q2⟩, _⟩ := new_cells w (.string { data := #[] }) (.int .i64 0) (.bool false) (.pointer none) 9 3 4 52
  exact ⟨⟨(hB.cell (by show w.heap.size < _; omega)).trans p0, (frozen_blk (hB.block _ (by omega))).trans q0⟩, ⟨(hB.cell (by show w.heap.size + 1 < _; omega)).trans p1, (frozen_blk (hB.block _ (by omega))).trans q1⟩,
    ⟨(hB.cell (by show w.heap.size + 1 + 1 < _; omega)).trans p2, (frozen_blk (hB.block _ (by omega))).trans q2⟩, hBB⟩
theorem set_facts (w' : World) (z : Nat) (s : ByteArray) (n : Int) (bb : Bool) (c0 : w'.cell? ⟨z, 0, none⟩ = some (.string { data := #[] })) (c1 : w'.cell? ⟨z + 1, 0, none⟩ = some (.int .i64 0)) (c2 : w'.cell? ⟨z + 1 + 1, 0, none⟩ = some (.bool false)) :
    (w'.setCell ⟨z, 0, none⟩ (.string s)).cell? ⟨z, 0, none⟩ = some (.string s) ∧ ((w'.setCell ⟨z, 0, none⟩ (.string s)).setCell ⟨z + 1, 0, none⟩ (.int .i64 n)).cell? ⟨z + 1, 0, none⟩ = some (.int .i64 n) ∧
    (((w'.setCell ⟨z, 0, none⟩ (.string s)).setCell ⟨z + 1, 0, none⟩ (.int .i64 n)).setCell ⟨z + 1 + 1, 0, none⟩ (.bool bb)).cell? ⟨z + 1 + 1, 0, none⟩ = some (.bool bb) := by
  refine ⟨cellSet _ _ _ _ c0, cellSet _ _ (.int .i64 0) _ ?_, cellSet _ _ (.bool false) _ ?_⟩
  · rw [World.cell?_of_block (w := w') (heap_setCell_other w' ⟨z, 0, none⟩ (z + 1) _ (by simp))]
    exact c1
  · rw [World.cell?_of_block (w := w'.setCell ⟨z, 0, none⟩ (.string s)) (heap_setCell_other _ ⟨z + 1, 0, none⟩ (z + 1 + 1) _ (by simp)), World.cell?_of_block (w := w') (heap_setCell_other w' ⟨z, 0, none⟩ (z + 1 + 1) _ (by simp; try omega))]
    exact c2

set_option maxHeartbeats 4000000 in
theorem ref_hit (b : Nat) (s : ByteArray) (n : Int) (w : World) (hg : w.cell? ⟨0, 0, none⟩ = some (.iface 138 (.agg #[.pointer (some ⟨2, 24, none⟩)]))) (hs : w.cell? ⟨b, 1, none⟩ = some (.string s)) (hn : w.cell? ⟨b, 2, none⟩ = some (.int .i64 n)) (b1 : Bool)
    (h1 : ∀ w', KeepsW w w' → Calls Tryz.prog 16 #[.iface 52 (.pointer (some ⟨b, 0, none⟩)), .iface 26 (.int .i64 1)] w' fun e w2 => e = .returned (.bool b1) ∧ w2 = w')
    (h2 : b1 = false → ∀ w', KeepsW w w' → Calls Tryz.prog 16 #[.iface 52 (.pointer (some ⟨b, 0, none⟩)), .iface 26 (.int .i64 2)] w' fun e w2 => e = .returned (.bool true) ∧ w2 = w') :
    Calls Tryz.prog 7 #[.iface 52 (.pointer (some ⟨b, 0, none⟩))] w fun e w' => e = .returned (.tuple #[.string s, .int .i64 n, .bool true]) ∧ Below w.heap.size w w' := by
  have hmf := @mkf Tryz.prog
  have hlt : 0 < w.heap.size := cell_lt9 hg
  have hal : b < w.heap.size := cell_lt9 hs
  have hgW := keep1 _ (.cells #[.pointer none] 52) _ _ (keep3 w (.cells #[.string { data := #[] }] 9) (.cells #[.int .i64 0] 3) (.cells #[.bool false] 4) _ _ hg)
  rcases b1 with _ | _
  · replace h2 := h2 rfl
    go_enter_defers Tryz.func7, Tryz.ntmps7
    go_wp2_with fail
    refine (h1 _ (keep3 w _ _ _)).mono ?_
    rintro e w' ⟨rfl, rfl⟩
    go_wp2_with fail
    refine (h2 _ (keep3 w _ _ _)).mono ?_
    rintro e w' ⟨rfl, rfl⟩
    go_wp2_with fail
    refine (asFault2 ⟨b, 0, none⟩ (w.heap.size + 1 + 1 + 1) (.pointer none) _ hgW (new_cells w _ _ _ _ _ _ _ _).2.2.2.1 (new_cells w _ _ _ _ _ _ _ _).2.2.2.2).mono ?_
    rintro ev w' ⟨rfl, hB, hC⟩
    obtain ⟨⟨c0, z0⟩, ⟨c1, z1⟩, ⟨c2, z2⟩, d1, d2, hBB⟩ := hit_facts b s n w w' hs hn hB
    clear hB hgW hs hn hg
    have n1 : b ≠ w.heap.size := by omega
    have n2 : b ≠ w.heap.size + 1 := by omega
    have n3 : b ≠ w.heap.size + 1 + 1 := by omega
    go_wp2_with fail
    go_region
    go_wp2_with fail
    refine leaves_cons (f := 15) (args := #[.pointer (some ⟨w.heap.size, 0, none⟩), .pointer (some ⟨w.heap.size + 1, 0, none⟩), .pointer (some ⟨w.heap.size + 1 + 1, 0, none⟩)]) (by simp) (by simp [go_sem]) ?_
    refine (cloIdle _ _ _ _).mono ?_
    rintro e u' w'' ⟨rfl, rfl, rfl⟩
    obtain ⟨e0, e1, e2⟩ := set_facts w' w.heap.size s n true c0 c1 c2
    simp [Leaves, settle, results, Tryz.results7, go_sem, e0, e1, e2]
    exact (((hBB.setCell (Nat.le_refl _) _).setCell (by show w.heap.size ≤ w.heap.size + 1; omega) _).setCell (by show w.heap.size ≤ w.heap.size + 1 + 1; omega) _).drew
  · go_enter_defers Tryz.func7, Tryz.ntmps7
    go_wp2_with fail
    refine (h1 _ (keep3 w _ _ _)).mono ?_
    rintro e w' ⟨rfl, rfl⟩
    go_wp2_with fail
    refine (asFault2 ⟨b, 0, none⟩ (w.heap.size + 1 + 1 + 1) (.pointer none) _ hgW (new_cells w _ _ _ _ _ _ _ _).2.2.2.1 (new_cells w _ _ _ _ _ _ _ _).2.2.2.2).mono ?_
    rintro ev w' ⟨rfl, hB, hC⟩
    obtain ⟨⟨c0, z0⟩, ⟨c1, z1⟩, ⟨c2, z2⟩, d1, d2, hBB⟩ := hit_facts b s n w w' hs hn hB
    clear hB hgW hs hn hg
    have n1 : b ≠ w.heap.size := by omega
    have n2 : b ≠ w.heap.size + 1 := by omega
    have n3 : b ≠ w.heap.size + 1 + 1 := by omega
    go_wp2_with fail
    go_region
    go_wp2_with fail
    refine leaves_cons (f := 15) (args := #[.pointer (some ⟨w.heap.size, 0, none⟩), .pointer (some ⟨w.heap.size + 1, 0, none⟩), .pointer (some ⟨w.heap.size + 1 + 1, 0, none⟩)]) (by simp) (by simp [go_sem]) ?_
    refine (cloIdle _ _ _ _).mono ?_
    rintro e u' w'' ⟨rfl, rfl, rfl⟩
    obtain ⟨e0, e1, e2⟩ := set_facts w' w.heap.size s n true c0 c1 c2
    simp [Leaves, settle, results, Tryz.results7, go_sem, e0, e1, e2]
    exact (((hBB.setCell (Nat.le_refl _) _).setCell (by show w.heap.size ≤ w.heap.size + 1; omega) _).setCell (by show w.heap.size ≤ w.heap.size + 1 + 1; omega) _).drew

abbrev HeldE (w : World) : Prop := w.cell? ⟨0, 0, none⟩ = some (.iface 138 (.agg #[.pointer (some ⟨2, 24, none⟩)]))
theorem refFault1 (b : Nat) (k : Int) (hk : k = 1 ∨ k = 2) (s : ByteArray) (n : Int) (w : World) (hg : HeldE w) (h0 : w.cell? ⟨b, 0, none⟩ = some (.iface 26 (.int .i64 k))) (hs : w.cell? ⟨b, 1, none⟩ = some (.string s)) (hn : w.cell? ⟨b, 2, none⟩ = some (.int .i64 n)) :
    Calls Tryz.prog 7 #[.iface 52 (.pointer (some ⟨b, 0, none⟩))] w fun e w' => e = .returned (.tuple #[.string s, .int .i64 n, .bool true]) ∧ Below w.heap.size w w' := by
  refine ref_hit b s n w hg hs hn (k == 1) (fun w' hkp => is_fault1 ⟨b, 0, none⟩ k 1 w' (hkp _ _ h0)) fun he w' hkp => ?_
  have := is_fault1 ⟨b, 0, none⟩ k 2 w' (hkp _ _ h0)
  rcases hk with rfl | rfl
  · cases he
  · exact this
theorem refFault2 (b c : Nat) (k : Int) (hk : k = 1 ∨ k = 2) (s : ByteArray) (n : Int) (w : World) (hg : HeldE w) (h0 : w.cell? ⟨b, 0, none⟩ = some (.iface 52 (.pointer (some ⟨c, 0, none⟩)))) (hc : w.cell? ⟨c, 0, none⟩ = some (.iface 26 (.int .i64 k))) (hs : w.cell? ⟨b, 1, none⟩ = some (.string s)) (hn : w.cell? ⟨b, 2, none⟩ = some (.int .i64 n)) :
    Calls Tryz.prog 7 #[.iface 52 (.pointer (some ⟨b, 0, none⟩))] w fun e w' => e = .returned (.tuple #[.string s, .int .i64 n, .bool true]) ∧ Below w.heap.size w w' := by
  refine ref_hit b s n w hg hs hn (k == 1) (fun w' hkp => is_fault2 ⟨b, 0, none⟩ ⟨c, 0, none⟩ k 1 w' (hkp _ _ h0) (hkp _ _ hc)) fun he w' hkp => ?_
  have := is_fault2 ⟨b, 0, none⟩ ⟨c, 0, none⟩ k 2 w' (hkp _ _ h0) (hkp _ _ hc)
  rcases hk with rfl | rfl
  · cases he
  · exact this

set_option maxHeartbeats 4000000 in
theorem refEno1 (k : Int) (hk : k = 1 ∨ k = 2) (w : World) (hg : HeldE w) : Calls Tryz.prog 7 #[.iface 26 (.int .i64 k)] w fun e w' => e = .returned (.tuple #[.string ByteArray.empty, .int .i64 0, .bool false]) ∧ Below w.heap.size w w' := by
  have hmf := @mkf Tryz.prog
  have hlt : 0 < w.heap.size := cell_lt9 hg
  have hgW := keep1 _ (.cells #[.pointer none] 52) _ _ (keep3 w (.cells #[.string { data := #[] }] 9) (.cells #[.int .i64 0] 3) (.cells #[.bool false] 4) _ _ hg)
  rcases hk with rfl | rfl
  · go_enter_defers Tryz.func7, Tryz.ntmps7
    go_wp2_with fail
    refine (is_eno 1 1 _).mono ?_
    rintro e w' ⟨rfl, rfl⟩
    go_wp2_with fail
    refine (asNo 1 ⟨w.heap.size + 1 + 1 + 1, 0, none⟩ (.pointer none) _ hgW (new_cells w _ _ _ _ _ _ _ _).2.2.2.1 (new_cells w _ _ _ _ _ _ _ _).2.2.2.2).mono ?_
    rintro ev w' ⟨rfl, hB⟩
    obtain ⟨⟨c0, z0⟩, ⟨c1, z1⟩, ⟨c2, z2⟩, hBB⟩ := no_facts w w' hB
    obtain ⟨e0, e1, e2⟩ := set_facts w' w.heap.size { data := #[] } 0 false c0 c1 c2
    clear hB hgW
    go_wp2_with fail
    refine leaves_cons (f := 15) (args := #[.pointer (some ⟨w.heap.size, 0, none⟩), .pointer (some ⟨w.heap.size + 1, 0, none⟩), .pointer (some ⟨w.heap.size + 1 + 1, 0, none⟩)]) (by simp) (by simp [go_sem]) ?_
    refine (cloIdle _ _ _ _).mono ?_
    rintro e u' w'' ⟨rfl, rfl, rfl⟩
    simp [Leaves, settle, results, Tryz.results7, go_sem, e0, e1, e2]
    exact ⟨rfl, ((hBB.setCell (Nat.le_refl _) _).setCell (by show w.heap.size ≤ w.heap.size + 1; omega) _).setCell (by show w.heap.size ≤ w.heap.size + 1 + 1; omega) _⟩
  · go_enter_defers Tryz.func7, Tryz.ntmps7
    go_wp2_with fail
    refine (is_eno 2 1 _).mono ?_
    rintro e w' ⟨rfl, rfl⟩
    go_wp2_with fail
    refine (is_eno 2 2 _).mono ?_
    rintro e w' ⟨rfl, rfl⟩
    go_wp2_with fail
    refine (asNo 2 ⟨w.heap.size + 1 + 1 + 1, 0, none⟩ (.pointer none) _ hgW (new_cells w _ _ _ _ _ _ _ _).2.2.2.1 (new_cells w _ _ _ _ _ _ _ _).2.2.2.2).mono ?_
    rintro ev w' ⟨rfl, hB⟩
    obtain ⟨⟨c0, z0⟩, ⟨c1, z1⟩, ⟨c2, z2⟩, hBB⟩ := no_facts w w' hB
    obtain ⟨e0, e1, e2⟩ := set_facts w' w.heap.size { data := #[] } 0 false c0 c1 c2
    clear hB hgW
    go_wp2_with fail
    refine leaves_cons (f := 15) (args := #[.pointer (some ⟨w.heap.size, 0, none⟩), .pointer (some ⟨w.heap.size + 1, 0, none⟩), .pointer (some ⟨w.heap.size + 1 + 1, 0, none⟩)]) (by simp) (by simp [go_sem]) ?_
    refine (cloIdle _ _ _ _).mono ?_
    rintro e u' w'' ⟨rfl, rfl, rfl⟩
    simp [Leaves, settle, results, Tryz.results7, go_sem, e0, e1, e2]
    exact ⟨rfl, ((hBB.setCell (Nat.le_refl _) _).setCell (by show w.heap.size ≤ w.heap.size + 1; omega) _).setCell (by show w.heap.size ≤ w.heap.size + 1 + 1; omega) _⟩
end Go.Proofs.YtnldcpanpojeiaaGreatDoor
