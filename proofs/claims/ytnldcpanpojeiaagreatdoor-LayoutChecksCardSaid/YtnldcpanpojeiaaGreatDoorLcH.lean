/-
  LayoutChecks: its call, by a walk.
-/
import Derived.Test.YtnldcpanpojeiaaGreatDoorLcG
namespace Go.Proofs.YtnldcpanpojeiaaGreatDoor
set_option linter.all false
open Go.RowKit Go.Extern.Stop Go.Stop Go.Extern

set_option maxHeartbeats 8000000 in
theorem lc_long1 (bytes width n : Int) (wh : ByteArray) (w : World) (hla : Held w) (hn : 0 ≤ n ∧ n ≤ 255) (h : 1073741824 < bytes) (hd : width < 1) :
    Calls Tryz.prog 3 #[.int .i64 bytes, .int .i64 width, .int .u8 n, .string wh] w fun e w' => e = .returned (.bool true) ∧ Below w.heap.size w w' := by
  go_enter Tryz.func3, Tryz.ntmps3
  go_wp2_with fail
  refine (awake_calls w hla).mono ?_
  rintro e w1 ⟨rfl, hb1⟩
  have hla1 := held_below hla hb1
  go_wp2_with fail
  refine (check_long bytes width (by omega) w1).mono ?_
  rintro e w2 ⟨rfl, rfl⟩
  obtain ⟨c0, c1, c2⟩ := three_cells w1 (.iface 26 (.int .i64 1)) (.string bytesS) (.int .i64 bytes) 56
  have hb2 : Below w.heap.size w (w1.alloc (.cells #[.iface 26 (.int .i64 1), .string bytesS, .int .i64 bytes] 56)) := hb1.alloc (by exact hb1.size) _
  have hla2 := held_below hla hb2
  have hg2 : HeldE (w1.alloc (.cells #[.iface 26 (.int .i64 1), .string bytesS, .int .i64 bytes] 56)) := hla2 0 _ rfl
  go_wp2_with fail
  refine (refFault1 w1.heap.size 1 (.inl rfl) bytesS bytes _ hg2 c0 c1 c2).mono ?_
  rintro e w3 ⟨rfl, hb3⟩
  have hb3' := hb2.trans (hb3.mono hb2.size)
  replace c0 := (hb3.cell (cell_lt9 c0)).trans c0
  replace c1 := (hb3.cell (cell_lt9 c1)).trans c1
  replace c2 := (hb3.cell (cell_lt9 c2)).trans c2
  have hla3 := held_below hla hb3'
  clear hb3 hb2 hla2 hg2 hb1 hla1
  go_wp2_with fail
  refine (told_hit (by decide) w1.heap.size bytesS bytes w3 hla3 c0 c1 c2).mono ?_
  rintro e w4 ⟨rfl, hb4⟩
  have hB4 := hb3'.trans (hb4.mono hb3'.size)
  have hla4 := held_below hla hB4
  clear c0 c1 c2 hb4 hb3' hla3
  go_wp2_with fail
  generalize n % 8 = m
  by_cases hm1 : m = 1
  · subst hm1
    refine (wrap_walk (.iface 26 (.int .i64 1)) wh width w4 ⟨_, _, rfl⟩).mono ?_
    rintro e w5 ⟨rfl, rfl⟩
    obtain ⟨x0, x1, x2⟩ := three_cells w4 (.iface 26 (.int .i64 1)) (.string wh) (.int .i64 width) 56
    obtain ⟨y0, y1, y2⟩ := three_cells (w4.alloc (.cells #[.iface 26 (.int .i64 1), .string wh, .int .i64 width] 56)) (.iface 52 (.pointer (some ⟨w4.heap.size, 0, none⟩))) (.string outerS) (.int .i64 bytes) 56
    have hB6 : Below w.heap.size w ((w4.alloc (.cells #[.iface 26 (.int .i64 1), .string wh, .int .i64 width] 56)).alloc (.cells #[.iface 52 (.pointer (some ⟨w4.heap.size, 0, none⟩)), .string outerS, .int .i64 bytes] 56)) := (hB4.alloc hB4.size _).alloc (by rw [World.size_alloc]; exact Nat.le_succ_of_le hB4.size) _
    replace x0 := keep1 _ (.cells #[.iface 52 (.pointer (some ⟨w4.heap.size, 0, none⟩)), .string outerS, .int .i64 bytes] 56) _ _ x0
    rw [World.size_alloc] at y0 y1 y2
    have hla6 := held_below hla hB6
    have hg6 : HeldE ((w4.alloc (.cells #[.iface 26 (.int .i64 1), .string wh, .int .i64 width] 56)).alloc (.cells #[.iface 52 (.pointer (some ⟨w4.heap.size, 0, none⟩)), .string outerS, .int .i64 bytes] 56)) := hla6 0 _ rfl
    clear x1 x2 hla4
    go_wp2_with fail
    refine (wrap_walk (.iface 52 (.pointer (some ⟨w4.heap.size, 0, none⟩))) outerS bytes _ ⟨_, _, rfl⟩).mono ?_
    rintro e w6 ⟨rfl, rfl⟩
    go_wp2_with fail
    refine (refFault2 (w4.heap.size + 1) w4.heap.size 1 (by omega) outerS bytes _ hg6 y0 x0 y1 y2).mono ?_
    rintro e w7 ⟨rfl, hb7⟩
    have hB7 := hB6.trans (hb7.mono hB6.size)
    have hla7 := held_below hla hB7
    have hg7 : HeldE w7 := hla7 0 _ rfl
    clear x0 y0 y1 y2 hg6 hla6 hB6 hb7 hB4
    go_wp2_with fail
    refine (refEno1 1 (by omega) w7 hg7).mono ?_
    rintro e w8 ⟨rfl, hb8⟩
    have hB8 := hB7.trans (hb8.mono hB7.size)
    clear hla7 hg7 hb8 hB7
    go_wp2_with fail
    refine (new_walk wh w8).mono ?_
    rintro e w9 ⟨rfl, rfl⟩
    have hB9 : Below w.heap.size w (w8.alloc (.cells #[.string wh] 62)) := hB8.alloc hB8.size _
    go_wp2_with fail
    refine (refStr ⟨w8.heap.size, 0, none⟩ _).mono ?_
    rintro e w10 ⟨rfl, hb10⟩
    have hB10 := hB9.trans (hb10.mono hB9.size)
    clear hB9 hb10 hB8
    go_wp2_with fail
    go_ret
    exact ⟨by simp, hB10⟩
  by_cases hm2 : m = 2
  · subst hm2
    refine (wrap_walk (.iface 26 (.int .i64 2)) wh width w4 ⟨_, _, rfl⟩).mono ?_
    rintro e w5 ⟨rfl, rfl⟩
    obtain ⟨x0, x1, x2⟩ := three_cells w4 (.iface 26 (.int .i64 2)) (.string wh) (.int .i64 width) 56
    obtain ⟨y0, y1, y2⟩ := three_cells (w4.alloc (.cells #[.iface 26 (.int .i64 2), .string wh, .int .i64 width] 56)) (.iface 52 (.pointer (some ⟨w4.heap.size, 0, none⟩))) (.string outerS) (.int .i64 bytes) 56
    have hB6 : Below w.heap.size w ((w4.alloc (.cells #[.iface 26 (.int .i64 2), .string wh, .int .i64 width] 56)).alloc (.cells #[.iface 52 (.pointer (some ⟨w4.heap.size, 0, none⟩)), .string outerS, .int .i64 bytes] 56)) := (hB4.alloc hB4.size _).alloc (by rw [World.size_alloc]; exact Nat.le_succ_of_le hB4.size) _
    replace x0 := keep1 _ (.cells #[.iface 52 (.pointer (some ⟨w4.heap.size, 0, none⟩)), .string outerS, .int .i64 bytes] 56) _ _ x0
    rw [World.size_alloc] at y0 y1 y2
    have hla6 := held_below hla hB6
    have hg6 : HeldE ((w4.alloc (.cells #[.iface 26 (.int .i64 2), .string wh, .int .i64 width] 56)).alloc (.cells #[.iface 52 (.pointer (some ⟨w4.heap.size, 0, none⟩)), .string outerS, .int .i64 bytes] 56)) := hla6 0 _ rfl
    clear x1 x2 hla4
    go_wp2_with fail
    refine (wrap_walk (.iface 52 (.pointer (some ⟨w4.heap.size, 0, none⟩))) outerS bytes _ ⟨_, _, rfl⟩).mono ?_
    rintro e w6 ⟨rfl, rfl⟩
    go_wp2_with fail
    refine (refFault2 (w4.heap.size + 1) w4.heap.size 2 (by omega) outerS bytes _ hg6 y0 x0 y1 y2).mono ?_
    rintro e w7 ⟨rfl, hb7⟩
    have hB7 := hB6.trans (hb7.mono hB6.size)
    have hla7 := held_below hla hB7
    have hg7 : HeldE w7 := hla7 0 _ rfl
    clear x0 y0 y1 y2 hg6 hla6 hB6 hb7 hB4
    go_wp2_with fail
    refine (refEno1 2 (by omega) w7 hg7).mono ?_
    rintro e w8 ⟨rfl, hb8⟩
    have hB8 := hB7.trans (hb8.mono hB7.size)
    clear hla7 hg7 hb8 hB7
    go_wp2_with fail
    refine (new_walk wh w8).mono ?_
    rintro e w9 ⟨rfl, rfl⟩
    have hB9 : Below w.heap.size w (w8.alloc (.cells #[.string wh] 62)) := hB8.alloc hB8.size _
    go_wp2_with fail
    refine (refStr ⟨w8.heap.size, 0, none⟩ _).mono ?_
    rintro e w10 ⟨rfl, hb10⟩
    have hB10 := hB9.trans (hb10.mono hB9.size)
    clear hB9 hb10 hB8
    go_wp2_with fail
    go_ret
    exact ⟨by simp, hB10⟩
  ·
    refine (wrap_walk (.iface 26 (.int .i64 m)) wh width w4 ⟨_, _, rfl⟩).mono ?_
    rintro e w5 ⟨rfl, rfl⟩
    obtain ⟨x0, x1, x2⟩ := three_cells w4 (.iface 26 (.int .i64 m)) (.string wh) (.int .i64 width) 56
    obtain ⟨y0, y1, y2⟩ := three_cells (w4.alloc (.cells #[.iface 26 (.int .i64 m), .string wh, .int .i64 width] 56)) (.iface 52 (.pointer (some ⟨w4.heap.size, 0, none⟩))) (.string outerS) (.int .i64 bytes) 56
    have hB6 : Below w.heap.size w ((w4.alloc (.cells #[.iface 26 (.int .i64 m), .string wh, .int .i64 width] 56)).alloc (.cells #[.iface 52 (.pointer (some ⟨w4.heap.size, 0, none⟩)), .string outerS, .int .i64 bytes] 56)) := (hB4.alloc hB4.size _).alloc (by rw [World.size_alloc]; exact Nat.le_succ_of_le hB4.size) _
    replace x0 := keep1 _ (.cells #[.iface 52 (.pointer (some ⟨w4.heap.size, 0, none⟩)), .string outerS, .int .i64 bytes] 56) _ _ x0
    rw [World.size_alloc] at y0 y1 y2
    have hla6 := held_below hla hB6
    have hg6 : HeldE ((w4.alloc (.cells #[.iface 26 (.int .i64 m), .string wh, .int .i64 width] 56)).alloc (.cells #[.iface 52 (.pointer (some ⟨w4.heap.size, 0, none⟩)), .string outerS, .int .i64 bytes] 56)) := hla6 0 _ rfl
    clear x1 x2 hla4
    go_wp2_with fail
    refine (wrap_walk (.iface 52 (.pointer (some ⟨w4.heap.size, 0, none⟩))) outerS bytes _ ⟨_, _, rfl⟩).mono ?_
    rintro e w6 ⟨rfl, rfl⟩
    go_wp2_with fail
    refine (refFault20 ⟨w4.heap.size + 1, 0, none⟩ ⟨w4.heap.size, 0, none⟩ m hm1 hm2 _ y0 x0).mono ?_
    rintro e w7 ⟨rfl, hb7⟩
    have hB7 := hB6.trans (hb7.mono hB6.size)
    have hla7 := held_below hla hB7
    have hg7 : HeldE w7 := hla7 0 _ rfl
    clear x0 y0 y1 y2 hg6 hla6 hB6 hb7 hB4
    go_wp2_with fail
    refine (refEno0 m hm1 hm2 w7).mono ?_
    rintro e w8 ⟨rfl, hb8⟩
    have hB8 := hB7.trans (hb8.mono hB7.size)
    clear hla7 hg7 hb8 hB7
    go_wp2_with fail
    refine (new_walk wh w8).mono ?_
    rintro e w9 ⟨rfl, rfl⟩
    have hB9 : Below w.heap.size w (w8.alloc (.cells #[.string wh] 62)) := hB8.alloc hB8.size _
    go_wp2_with fail
    refine (refStr ⟨w8.heap.size, 0, none⟩ _).mono ?_
    rintro e w10 ⟨rfl, hb10⟩
    have hB10 := hB9.trans (hb10.mono hB9.size)
    clear hB9 hb10 hB8
    go_wp2_with fail
    go_ret
    exact ⟨by simp [hm1, hm2], hB10⟩

set_option maxHeartbeats 8000000 in
theorem lc_long2 (bytes width n : Int) (wh : ByteArray) (w : World) (hla : Held w) (hn : 0 ≤ n ∧ n ≤ 255) (h : 1073741824 < bytes) (hd : ¬ width < 1) :
    Calls Tryz.prog 3 #[.int .i64 bytes, .int .i64 width, .int .u8 n, .string wh] w fun e w' => e = .returned (.bool true) ∧ Below w.heap.size w w' := by
  go_enter Tryz.func3, Tryz.ntmps3
  go_wp2_with fail
  refine (awake_calls w hla).mono ?_
  rintro e w1 ⟨rfl, hb1⟩
  have hla1 := held_below hla hb1
  go_wp2_with fail
  refine (check_long bytes width (by omega) w1).mono ?_
  rintro e w2 ⟨rfl, rfl⟩
  obtain ⟨c0, c1, c2⟩ := three_cells w1 (.iface 26 (.int .i64 1)) (.string bytesS) (.int .i64 bytes) 56
  have hb2 : Below w.heap.size w (w1.alloc (.cells #[.iface 26 (.int .i64 1), .string bytesS, .int .i64 bytes] 56)) := hb1.alloc (by exact hb1.size) _
  have hla2 := held_below hla hb2
  have hg2 : HeldE (w1.alloc (.cells #[.iface 26 (.int .i64 1), .string bytesS, .int .i64 bytes] 56)) := hla2 0 _ rfl
  go_wp2_with fail
  refine (refFault1 w1.heap.size 1 (.inl rfl) bytesS bytes _ hg2 c0 c1 c2).mono ?_
  rintro e w3 ⟨rfl, hb3⟩
  have hb3' := hb2.trans (hb3.mono hb2.size)
  replace c0 := (hb3.cell (cell_lt9 c0)).trans c0
  replace c1 := (hb3.cell (cell_lt9 c1)).trans c1
  replace c2 := (hb3.cell (cell_lt9 c2)).trans c2
  have hla3 := held_below hla hb3'
  clear hb3 hb2 hla2 hg2 hb1 hla1
  go_wp2_with fail
  refine (told_hit (by decide) w1.heap.size bytesS bytes w3 hla3 c0 c1 c2).mono ?_
  rintro e w4 ⟨rfl, hb4⟩
  have hB4 := hb3'.trans (hb4.mono hb3'.size)
  have hla4 := held_below hla hB4
  clear c0 c1 c2 hb4 hb3' hla3
  go_wp2_with fail
  generalize n % 8 = m
  by_cases hm1 : m = 1
  · subst hm1
    refine (wrap_walk (.iface 26 (.int .i64 1)) wh width w4 ⟨_, _, rfl⟩).mono ?_
    rintro e w5 ⟨rfl, rfl⟩
    obtain ⟨x0, x1, x2⟩ := three_cells w4 (.iface 26 (.int .i64 1)) (.string wh) (.int .i64 width) 56
    obtain ⟨y0, y1, y2⟩ := three_cells (w4.alloc (.cells #[.iface 26 (.int .i64 1), .string wh, .int .i64 width] 56)) (.iface 52 (.pointer (some ⟨w4.heap.size, 0, none⟩))) (.string outerS) (.int .i64 bytes) 56
    have hB6 : Below w.heap.size w ((w4.alloc (.cells #[.iface 26 (.int .i64 1), .string wh, .int .i64 width] 56)).alloc (.cells #[.iface 52 (.pointer (some ⟨w4.heap.size, 0, none⟩)), .string outerS, .int .i64 bytes] 56)) := (hB4.alloc hB4.size _).alloc (by rw [World.size_alloc]; exact Nat.le_succ_of_le hB4.size) _
    replace x0 := keep1 _ (.cells #[.iface 52 (.pointer (some ⟨w4.heap.size, 0, none⟩)), .string outerS, .int .i64 bytes] 56) _ _ x0
    rw [World.size_alloc] at y0 y1 y2
    have hla6 := held_below hla hB6
    have hg6 : HeldE ((w4.alloc (.cells #[.iface 26 (.int .i64 1), .string wh, .int .i64 width] 56)).alloc (.cells #[.iface 52 (.pointer (some ⟨w4.heap.size, 0, none⟩)), .string outerS, .int .i64 bytes] 56)) := hla6 0 _ rfl
    clear x1 x2 hla4
    go_wp2_with fail
    refine (wrap_walk (.iface 52 (.pointer (some ⟨w4.heap.size, 0, none⟩))) outerS bytes _ ⟨_, _, rfl⟩).mono ?_
    rintro e w6 ⟨rfl, rfl⟩
    go_wp2_with fail
    refine (refFault2 (w4.heap.size + 1) w4.heap.size 1 (by omega) outerS bytes _ hg6 y0 x0 y1 y2).mono ?_
    rintro e w7 ⟨rfl, hb7⟩
    have hB7 := hB6.trans (hb7.mono hB6.size)
    have hla7 := held_below hla hB7
    have hg7 : HeldE w7 := hla7 0 _ rfl
    clear x0 y0 y1 y2 hg6 hla6 hB6 hb7 hB4
    go_wp2_with fail
    refine (refEno1 1 (by omega) w7 hg7).mono ?_
    rintro e w8 ⟨rfl, hb8⟩
    have hB8 := hB7.trans (hb8.mono hB7.size)
    clear hla7 hg7 hb8 hB7
    go_wp2_with fail
    refine (new_walk wh w8).mono ?_
    rintro e w9 ⟨rfl, rfl⟩
    have hB9 : Below w.heap.size w (w8.alloc (.cells #[.string wh] 62)) := hB8.alloc hB8.size _
    go_wp2_with fail
    refine (refStr ⟨w8.heap.size, 0, none⟩ _).mono ?_
    rintro e w10 ⟨rfl, hb10⟩
    have hB10 := hB9.trans (hb10.mono hB9.size)
    clear hB9 hb10 hB8
    go_wp2_with fail
    go_ret
    exact ⟨by simp, hB10⟩
  by_cases hm2 : m = 2
  · subst hm2
    refine (wrap_walk (.iface 26 (.int .i64 2)) wh width w4 ⟨_, _, rfl⟩).mono ?_
    rintro e w5 ⟨rfl, rfl⟩
    obtain ⟨x0, x1, x2⟩ := three_cells w4 (.iface 26 (.int .i64 2)) (.string wh) (.int .i64 width) 56
    obtain ⟨y0, y1, y2⟩ := three_cells (w4.alloc (.cells #[.iface 26 (.int .i64 2), .string wh, .int .i64 width] 56)) (.iface 52 (.pointer (some ⟨w4.heap.size, 0, none⟩))) (.string outerS) (.int .i64 bytes) 56
    have hB6 : Below w.heap.size w ((w4.alloc (.cells #[.iface 26 (.int .i64 2), .string wh, .int .i64 width] 56)).alloc (.cells #[.iface 52 (.pointer (some ⟨w4.heap.size, 0, none⟩)), .string outerS, .int .i64 bytes] 56)) := (hB4.alloc hB4.size _).alloc (by rw [World.size_alloc]; exact Nat.le_succ_of_le hB4.size) _
    replace x0 := keep1 _ (.cells #[.iface 52 (.pointer (some ⟨w4.heap.size, 0, none⟩)), .string outerS, .int .i64 bytes] 56) _ _ x0
    rw [World.size_alloc] at y0 y1 y2
    have hla6 := held_below hla hB6
    have hg6 : HeldE ((w4.alloc (.cells #[.iface 26 (.int .i64 2), .string wh, .int .i64 width] 56)).alloc (.cells #[.iface 52 (.pointer (some ⟨w4.heap.size, 0, none⟩)), .string outerS, .int .i64 bytes] 56)) := hla6 0 _ rfl
    clear x1 x2 hla4
    go_wp2_with fail
    refine (wrap_walk (.iface 52 (.pointer (some ⟨w4.heap.size, 0, none⟩))) outerS bytes _ ⟨_, _, rfl⟩).mono ?_
    rintro e w6 ⟨rfl, rfl⟩
    go_wp2_with fail
    refine (refFault2 (w4.heap.size + 1) w4.heap.size 2 (by omega) outerS bytes _ hg6 y0 x0 y1 y2).mono ?_
    rintro e w7 ⟨rfl, hb7⟩
    have hB7 := hB6.trans (hb7.mono hB6.size)
    have hla7 := held_below hla hB7
    have hg7 : HeldE w7 := hla7 0 _ rfl
    clear x0 y0 y1 y2 hg6 hla6 hB6 hb7 hB4
    go_wp2_with fail
    refine (refEno1 2 (by omega) w7 hg7).mono ?_
    rintro e w8 ⟨rfl, hb8⟩
    have hB8 := hB7.trans (hb8.mono hB7.size)
    clear hla7 hg7 hb8 hB7
    go_wp2_with fail
    refine (new_walk wh w8).mono ?_
    rintro e w9 ⟨rfl, rfl⟩
    have hB9 : Below w.heap.size w (w8.alloc (.cells #[.string wh] 62)) := hB8.alloc hB8.size _
    go_wp2_with fail
    refine (refStr ⟨w8.heap.size, 0, none⟩ _).mono ?_
    rintro e w10 ⟨rfl, hb10⟩
    have hB10 := hB9.trans (hb10.mono hB9.size)
    clear hB9 hb10 hB8
    go_wp2_with fail
    go_ret
    exact ⟨by simp, hB10⟩
  ·
    refine (wrap_walk (.iface 26 (.int .i64 m)) wh width w4 ⟨_, _, rfl⟩).mono ?_
    rintro e w5 ⟨rfl, rfl⟩
    obtain ⟨x0, x1, x2⟩ := three_cells w4 (.iface 26 (.int .i64 m)) (.string wh) (.int .i64 width) 56
    obtain ⟨y0, y1, y2⟩ := three_cells (w4.alloc (.cells #[.iface 26 (.int .i64 m), .string wh, .int .i64 width] 56)) (.iface 52 (.pointer (some ⟨w4.heap.size, 0, none⟩))) (.string outerS) (.int .i64 bytes) 56
    have hB6 : Below w.heap.size w ((w4.alloc (.cells #[.iface 26 (.int .i64 m), .string wh, .int .i64 width] 56)).alloc (.cells #[.iface 52 (.pointer (some ⟨w4.heap.size, 0, none⟩)), .string outerS, .int .i64 bytes] 56)) := (hB4.alloc hB4.size _).alloc (by rw [World.size_alloc]; exact Nat.le_succ_of_le hB4.size) _
    replace x0 := keep1 _ (.cells #[.iface 52 (.pointer (some ⟨w4.heap.size, 0, none⟩)), .string outerS, .int .i64 bytes] 56) _ _ x0
    rw [World.size_alloc] at y0 y1 y2
    have hla6 := held_below hla hB6
    have hg6 : HeldE ((w4.alloc (.cells #[.iface 26 (.int .i64 m), .string wh, .int .i64 width] 56)).alloc (.cells #[.iface 52 (.pointer (some ⟨w4.heap.size, 0, none⟩)), .string outerS, .int .i64 bytes] 56)) := hla6 0 _ rfl
    clear x1 x2 hla4
    go_wp2_with fail
    refine (wrap_walk (.iface 52 (.pointer (some ⟨w4.heap.size, 0, none⟩))) outerS bytes _ ⟨_, _, rfl⟩).mono ?_
    rintro e w6 ⟨rfl, rfl⟩
    go_wp2_with fail
    refine (refFault20 ⟨w4.heap.size + 1, 0, none⟩ ⟨w4.heap.size, 0, none⟩ m hm1 hm2 _ y0 x0).mono ?_
    rintro e w7 ⟨rfl, hb7⟩
    have hB7 := hB6.trans (hb7.mono hB6.size)
    have hla7 := held_below hla hB7
    have hg7 : HeldE w7 := hla7 0 _ rfl
    clear x0 y0 y1 y2 hg6 hla6 hB6 hb7 hB4
    go_wp2_with fail
    refine (refEno0 m hm1 hm2 w7).mono ?_
    rintro e w8 ⟨rfl, hb8⟩
    have hB8 := hB7.trans (hb8.mono hB7.size)
    clear hla7 hg7 hb8 hB7
    go_wp2_with fail
    refine (new_walk wh w8).mono ?_
    rintro e w9 ⟨rfl, rfl⟩
    have hB9 : Below w.heap.size w (w8.alloc (.cells #[.string wh] 62)) := hB8.alloc hB8.size _
    go_wp2_with fail
    refine (refStr ⟨w8.heap.size, 0, none⟩ _).mono ?_
    rintro e w10 ⟨rfl, hb10⟩
    have hB10 := hB9.trans (hb10.mono hB9.size)
    clear hB9 hb10 hB8
    go_wp2_with fail
    go_ret
    exact ⟨by simp [hm1, hm2], hB10⟩

set_option maxHeartbeats 8000000 in
theorem lc_width (bytes width n : Int) (wh : ByteArray) (w : World) (hla : Held w) (hn : 0 ≤ n ∧ n ≤ 255) (h : ¬ 1073741824 < bytes) (hd : width < 1) :
    Calls Tryz.prog 3 #[.int .i64 bytes, .int .i64 width, .int .u8 n, .string wh] w fun e w' => e = .returned (.bool true) ∧ Below w.heap.size w w' := by
  go_enter Tryz.func3, Tryz.ntmps3
  go_wp2_with fail
  refine (awake_calls w hla).mono ?_
  rintro e w1 ⟨rfl, hb1⟩
  have hla1 := held_below hla hb1
  go_wp2_with fail
  refine (check_width bytes width (by omega) (by omega) w1).mono ?_
  rintro e w2 ⟨rfl, rfl⟩
  obtain ⟨c0, c1, c2⟩ := three_cells w1 (.iface 26 (.int .i64 2)) (.string widthS) (.int .i64 width) 56
  have hb2 : Below w.heap.size w (w1.alloc (.cells #[.iface 26 (.int .i64 2), .string widthS, .int .i64 width] 56)) := hb1.alloc (by exact hb1.size) _
  have hla2 := held_below hla hb2
  have hg2 : HeldE (w1.alloc (.cells #[.iface 26 (.int .i64 2), .string widthS, .int .i64 width] 56)) := hla2 0 _ rfl
  go_wp2_with fail
  refine (refFault1 w1.heap.size 2 (.inr rfl) widthS width _ hg2 c0 c1 c2).mono ?_
  rintro e w3 ⟨rfl, hb3⟩
  have hb3' := hb2.trans (hb3.mono hb2.size)
  replace c0 := (hb3.cell (cell_lt9 c0)).trans c0
  replace c1 := (hb3.cell (cell_lt9 c1)).trans c1
  replace c2 := (hb3.cell (cell_lt9 c2)).trans c2
  have hla3 := held_below hla hb3'
  clear hb3 hb2 hla2 hg2 hb1 hla1
  go_wp2_with fail
  refine (told_hit (by decide) w1.heap.size widthS width w3 hla3 c0 c1 c2).mono ?_
  rintro e w4 ⟨rfl, hb4⟩
  have hB4 := hb3'.trans (hb4.mono hb3'.size)
  have hla4 := held_below hla hB4
  clear c0 c1 c2 hb4 hb3' hla3
  go_wp2_with fail
  generalize n % 8 = m
  by_cases hm1 : m = 1
  · subst hm1
    refine (wrap_walk (.iface 26 (.int .i64 1)) wh width w4 ⟨_, _, rfl⟩).mono ?_
    rintro e w5 ⟨rfl, rfl⟩
    obtain ⟨x0, x1, x2⟩ := three_cells w4 (.iface 26 (.int .i64 1)) (.string wh) (.int .i64 width) 56
    obtain ⟨y0, y1, y2⟩ := three_cells (w4.alloc (.cells #[.iface 26 (.int .i64 1), .string wh, .int .i64 width] 56)) (.iface 52 (.pointer (some ⟨w4.heap.size, 0, none⟩))) (.string outerS) (.int .i64 bytes) 56
    have hB6 : Below w.heap.size w ((w4.alloc (.cells #[.iface 26 (.int .i64 1), .string wh, .int .i64 width] 56)).alloc (.cells #[.iface 52 (.pointer (some ⟨w4.heap.size, 0, none⟩)), .string outerS, .int .i64 bytes] 56)) := (hB4.alloc hB4.size _).alloc (by rw [World.size_alloc]; exact Nat.le_succ_of_le hB4.size) _
    replace x0 := keep1 _ (.cells #[.iface 52 (.pointer (some ⟨w4.heap.size, 0, none⟩)), .string outerS, .int .i64 bytes] 56) _ _ x0
    rw [World.size_alloc] at y0 y1 y2
    have hla6 := held_below hla hB6
    have hg6 : HeldE ((w4.alloc (.cells #[.iface 26 (.int .i64 1), .string wh, .int .i64 width] 56)).alloc (.cells #[.iface 52 (.pointer (some ⟨w4.heap.size, 0, none⟩)), .string outerS, .int .i64 bytes] 56)) := hla6 0 _ rfl
    clear x1 x2 hla4
    go_wp2_with fail
    refine (wrap_walk (.iface 52 (.pointer (some ⟨w4.heap.size, 0, none⟩))) outerS bytes _ ⟨_, _, rfl⟩).mono ?_
    rintro e w6 ⟨rfl, rfl⟩
    go_wp2_with fail
    refine (refFault2 (w4.heap.size + 1) w4.heap.size 1 (by omega) outerS bytes _ hg6 y0 x0 y1 y2).mono ?_
    rintro e w7 ⟨rfl, hb7⟩
    have hB7 := hB6.trans (hb7.mono hB6.size)
    have hla7 := held_below hla hB7
    have hg7 : HeldE w7 := hla7 0 _ rfl
    clear x0 y0 y1 y2 hg6 hla6 hB6 hb7 hB4
    go_wp2_with fail
    refine (refEno1 1 (by omega) w7 hg7).mono ?_
    rintro e w8 ⟨rfl, hb8⟩
    have hB8 := hB7.trans (hb8.mono hB7.size)
    clear hla7 hg7 hb8 hB7
    go_wp2_with fail
    refine (new_walk wh w8).mono ?_
    rintro e w9 ⟨rfl, rfl⟩
    have hB9 : Below w.heap.size w (w8.alloc (.cells #[.string wh] 62)) := hB8.alloc hB8.size _
    go_wp2_with fail
    refine (refStr ⟨w8.heap.size, 0, none⟩ _).mono ?_
    rintro e w10 ⟨rfl, hb10⟩
    have hB10 := hB9.trans (hb10.mono hB9.size)
    clear hB9 hb10 hB8
    go_wp2_with fail
    go_ret
    exact ⟨by simp, hB10⟩
  by_cases hm2 : m = 2
  · subst hm2
    refine (wrap_walk (.iface 26 (.int .i64 2)) wh width w4 ⟨_, _, rfl⟩).mono ?_
    rintro e w5 ⟨rfl, rfl⟩
    obtain ⟨x0, x1, x2⟩ := three_cells w4 (.iface 26 (.int .i64 2)) (.string wh) (.int .i64 width) 56
    obtain ⟨y0, y1, y2⟩ := three_cells (w4.alloc (.cells #[.iface 26 (.int .i64 2), .string wh, .int .i64 width] 56)) (.iface 52 (.pointer (some ⟨w4.heap.size, 0, none⟩))) (.string outerS) (.int .i64 bytes) 56
    have hB6 : Below w.heap.size w ((w4.alloc (.cells #[.iface 26 (.int .i64 2), .string wh, .int .i64 width] 56)).alloc (.cells #[.iface 52 (.pointer (some ⟨w4.heap.size, 0, none⟩)), .string outerS, .int .i64 bytes] 56)) := (hB4.alloc hB4.size _).alloc (by rw [World.size_alloc]; exact Nat.le_succ_of_le hB4.size) _
    replace x0 := keep1 _ (.cells #[.iface 52 (.pointer (some ⟨w4.heap.size, 0, none⟩)), .string outerS, .int .i64 bytes] 56) _ _ x0
    rw [World.size_alloc] at y0 y1 y2
    have hla6 := held_below hla hB6
    have hg6 : HeldE ((w4.alloc (.cells #[.iface 26 (.int .i64 2), .string wh, .int .i64 width] 56)).alloc (.cells #[.iface 52 (.pointer (some ⟨w4.heap.size, 0, none⟩)), .string outerS, .int .i64 bytes] 56)) := hla6 0 _ rfl
    clear x1 x2 hla4
    go_wp2_with fail
    refine (wrap_walk (.iface 52 (.pointer (some ⟨w4.heap.size, 0, none⟩))) outerS bytes _ ⟨_, _, rfl⟩).mono ?_
    rintro e w6 ⟨rfl, rfl⟩
    go_wp2_with fail
    refine (refFault2 (w4.heap.size + 1) w4.heap.size 2 (by omega) outerS bytes _ hg6 y0 x0 y1 y2).mono ?_
    rintro e w7 ⟨rfl, hb7⟩
    have hB7 := hB6.trans (hb7.mono hB6.size)
    have hla7 := held_below hla hB7
    have hg7 : HeldE w7 := hla7 0 _ rfl
    clear x0 y0 y1 y2 hg6 hla6 hB6 hb7 hB4
    go_wp2_with fail
    refine (refEno1 2 (by omega) w7 hg7).mono ?_
    rintro e w8 ⟨rfl, hb8⟩
    have hB8 := hB7.trans (hb8.mono hB7.size)
    clear hla7 hg7 hb8 hB7
    go_wp2_with fail
    refine (new_walk wh w8).mono ?_
    rintro e w9 ⟨rfl, rfl⟩
    have hB9 : Below w.heap.size w (w8.alloc (.cells #[.string wh] 62)) := hB8.alloc hB8.size _
    go_wp2_with fail
    refine (refStr ⟨w8.heap.size, 0, none⟩ _).mono ?_
    rintro e w10 ⟨rfl, hb10⟩
    have hB10 := hB9.trans (hb10.mono hB9.size)
    clear hB9 hb10 hB8
    go_wp2_with fail
    go_ret
    exact ⟨by simp, hB10⟩
  ·
    refine (wrap_walk (.iface 26 (.int .i64 m)) wh width w4 ⟨_, _, rfl⟩).mono ?_
    rintro e w5 ⟨rfl, rfl⟩
    obtain ⟨x0, x1, x2⟩ := three_cells w4 (.iface 26 (.int .i64 m)) (.string wh) (.int .i64 width) 56
    obtain ⟨y0, y1, y2⟩ := three_cells (w4.alloc (.cells #[.iface 26 (.int .i64 m), .string wh, .int .i64 width] 56)) (.iface 52 (.pointer (some ⟨w4.heap.size, 0, none⟩))) (.string outerS) (.int .i64 bytes) 56
    have hB6 : Below w.heap.size w ((w4.alloc (.cells #[.iface 26 (.int .i64 m), .string wh, .int .i64 width] 56)).alloc (.cells #[.iface 52 (.pointer (some ⟨w4.heap.size, 0, none⟩)), .string outerS, .int .i64 bytes] 56)) := (hB4.alloc hB4.size _).alloc (by rw [World.size_alloc]; exact Nat.le_succ_of_le hB4.size) _
    replace x0 := keep1 _ (.cells #[.iface 52 (.pointer (some ⟨w4.heap.size, 0, none⟩)), .string outerS, .int .i64 bytes] 56) _ _ x0
    rw [World.size_alloc] at y0 y1 y2
    have hla6 := held_below hla hB6
    have hg6 : HeldE ((w4.alloc (.cells #[.iface 26 (.int .i64 m), .string wh, .int .i64 width] 56)).alloc (.cells #[.iface 52 (.pointer (some ⟨w4.heap.size, 0, none⟩)), .string outerS, .int .i64 bytes] 56)) := hla6 0 _ rfl
    clear x1 x2 hla4
    go_wp2_with fail
    refine (wrap_walk (.iface 52 (.pointer (some ⟨w4.heap.size, 0, none⟩))) outerS bytes _ ⟨_, _, rfl⟩).mono ?_
    rintro e w6 ⟨rfl, rfl⟩
    go_wp2_with fail
    refine (refFault20 ⟨w4.heap.size + 1, 0, none⟩ ⟨w4.heap.size, 0, none⟩ m hm1 hm2 _ y0 x0).mono ?_
    rintro e w7 ⟨rfl, hb7⟩
    have hB7 := hB6.trans (hb7.mono hB6.size)
    have hla7 := held_below hla hB7
    have hg7 : HeldE w7 := hla7 0 _ rfl
    clear x0 y0 y1 y2 hg6 hla6 hB6 hb7 hB4
    go_wp2_with fail
    refine (refEno0 m hm1 hm2 w7).mono ?_
    rintro e w8 ⟨rfl, hb8⟩
    have hB8 := hB7.trans (hb8.mono hB7.size)
    clear hla7 hg7 hb8 hB7
    go_wp2_with fail
    refine (new_walk wh w8).mono ?_
    rintro e w9 ⟨rfl, rfl⟩
    have hB9 : Below w.heap.size w (w8.alloc (.cells #[.string wh] 62)) := hB8.alloc hB8.size _
    go_wp2_with fail
    refine (refStr ⟨w8.heap.size, 0, none⟩ _).mono ?_
    rintro e w10 ⟨rfl, hb10⟩
    have hB10 := hB9.trans (hb10.mono hB9.size)
    clear hB9 hb10 hB8
    go_wp2_with fail
    go_ret
    exact ⟨by simp [hm1, hm2], hB10⟩

set_option maxHeartbeats 8000000 in
theorem lc_ok (bytes width n : Int) (wh : ByteArray) (w : World) (hla : Held w) (hn : 0 ≤ n ∧ n ≤ 255) (h : ¬ 1073741824 < bytes) (hd : ¬ width < 1) :
    Calls Tryz.prog 3 #[.int .i64 bytes, .int .i64 width, .int .u8 n, .string wh] w fun e w' => e = .returned (.bool true) ∧ Below w.heap.size w w' := by
  go_enter Tryz.func3, Tryz.ntmps3
  go_wp2_with fail
  refine (awake_calls w hla).mono ?_
  rintro e w1 ⟨rfl, hb1⟩
  have hla1 := held_below hla hb1
  go_wp2_with fail
  refine (check_ok bytes width (by omega) (by omega) w1).mono ?_
  rintro e w2 ⟨rfl, rfl⟩
  go_wp2_with fail
  refine (refNil _).mono ?_
  rintro e w3 ⟨rfl, hb3⟩
  have hb3' := hb1.trans (hb3.mono hb1.size)
  have hla3 := held_below hla hb3'
  clear hb3 hb1 hla1
  go_wp2_with fail
  refine (told_nil _ _ w3 hla3).mono ?_
  rintro e w4 ⟨rfl, hb4⟩
  have hB4 := hb3'.trans (hb4.mono hb3'.size)
  have hla4 := held_below hla hB4
  clear hb4 hb3' hla3
  go_wp2_with fail
  generalize n % 8 = m
  by_cases hm1 : m = 1
  · subst hm1
    refine (wrap_walk (.iface 26 (.int .i64 1)) wh width w4 ⟨_, _, rfl⟩).mono ?_
    rintro e w5 ⟨rfl, rfl⟩
    obtain ⟨x0, x1, x2⟩ := three_cells w4 (.iface 26 (.int .i64 1)) (.string wh) (.int .i64 width) 56
    obtain ⟨y0, y1, y2⟩ := three_cells (w4.alloc (.cells #[.iface 26 (.int .i64 1), .string wh, .int .i64 width] 56)) (.iface 52 (.pointer (some ⟨w4.heap.size, 0, none⟩))) (.string outerS) (.int .i64 bytes) 56
    have hB6 : Below w.heap.size w ((w4.alloc (.cells #[.iface 26 (.int .i64 1), .string wh, .int .i64 width] 56)).alloc (.cells #[.iface 52 (.pointer (some ⟨w4.heap.size, 0, none⟩)), .string outerS, .int .i64 bytes] 56)) := (hB4.alloc hB4.size _).alloc (by rw [World.size_alloc]; exact Nat.le_succ_of_le hB4.size) _
    replace x0 := keep1 _ (.cells #[.iface 52 (.pointer (some ⟨w4.heap.size, 0, none⟩)), .string outerS, .int .i64 bytes] 56) _ _ x0
    rw [World.size_alloc] at y0 y1 y2
    have hla6 := held_below hla hB6
    have hg6 : HeldE ((w4.alloc (.cells #[.iface 26 (.int .i64 1), .string wh, .int .i64 width] 56)).alloc (.cells #[.iface 52 (.pointer (some ⟨w4.heap.size, 0, none⟩)), .string outerS, .int .i64 bytes] 56)) := hla6 0 _ rfl
    clear x1 x2 hla4
    go_wp2_with fail
    refine (wrap_walk (.iface 52 (.pointer (some ⟨w4.heap.size, 0, none⟩))) outerS bytes _ ⟨_, _, rfl⟩).mono ?_
    rintro e w6 ⟨rfl, rfl⟩
    go_wp2_with fail
    refine (refFault2 (w4.heap.size + 1) w4.heap.size 1 (by omega) outerS bytes _ hg6 y0 x0 y1 y2).mono ?_
    rintro e w7 ⟨rfl, hb7⟩
    have hB7 := hB6.trans (hb7.mono hB6.size)
    have hla7 := held_below hla hB7
    have hg7 : HeldE w7 := hla7 0 _ rfl
    clear x0 y0 y1 y2 hg6 hla6 hB6 hb7 hB4
    go_wp2_with fail
    refine (refEno1 1 (by omega) w7 hg7).mono ?_
    rintro e w8 ⟨rfl, hb8⟩
    have hB8 := hB7.trans (hb8.mono hB7.size)
    clear hla7 hg7 hb8 hB7
    go_wp2_with fail
    refine (new_walk wh w8).mono ?_
    rintro e w9 ⟨rfl, rfl⟩
    have hB9 : Below w.heap.size w (w8.alloc (.cells #[.string wh] 62)) := hB8.alloc hB8.size _
    go_wp2_with fail
    refine (refStr ⟨w8.heap.size, 0, none⟩ _).mono ?_
    rintro e w10 ⟨rfl, hb10⟩
    have hB10 := hB9.trans (hb10.mono hB9.size)
    clear hB9 hb10 hB8
    go_wp2_with fail
    go_ret
    exact ⟨by simp, hB10⟩
  by_cases hm2 : m = 2
  · subst hm2
    refine (wrap_walk (.iface 26 (.int .i64 2)) wh width w4 ⟨_, _, rfl⟩).mono ?_
    rintro e w5 ⟨rfl, rfl⟩
    obtain ⟨x0, x1, x2⟩ := three_cells w4 (.iface 26 (.int .i64 2)) (.string wh) (.int .i64 width) 56
    obtain ⟨y0, y1, y2⟩ := three_cells (w4.alloc (.cells #[.iface 26 (.int .i64 2), .string wh, .int .i64 width] 56)) (.iface 52 (.pointer (some ⟨w4.heap.size, 0, none⟩))) (.string outerS) (.int .i64 bytes) 56
    have hB6 : Below w.heap.size w ((w4.alloc (.cells #[.iface 26 (.int .i64 2), .string wh, .int .i64 width] 56)).alloc (.cells #[.iface 52 (.pointer (some ⟨w4.heap.size, 0, none⟩)), .string outerS, .int .i64 bytes] 56)) := (hB4.alloc hB4.size _).alloc (by rw [World.size_alloc]; exact Nat.le_succ_of_le hB4.size) _
    replace x0 := keep1 _ (.cells #[.iface 52 (.pointer (some ⟨w4.heap.size, 0, none⟩)), .string outerS, .int .i64 bytes] 56) _ _ x0
    rw [World.size_alloc] at y0 y1 y2
    have hla6 := held_below hla hB6
    have hg6 : HeldE ((w4.alloc (.cells #[.iface 26 (.int .i64 2), .string wh, .int .i64 width] 56)).alloc (.cells #[.iface 52 (.pointer (some ⟨w4.heap.size, 0, none⟩)), .string outerS, .int .i64 bytes] 56)) := hla6 0 _ rfl
    clear x1 x2 hla4
    go_wp2_with fail
    refine (wrap_walk (.iface 52 (.pointer (some ⟨w4.heap.size, 0, none⟩))) outerS bytes _ ⟨_, _, rfl⟩).mono ?_
    rintro e w6 ⟨rfl, rfl⟩
    go_wp2_with fail
    refine (refFault2 (w4.heap.size + 1) w4.heap.size 2 (by omega) outerS bytes _ hg6 y0 x0 y1 y2).mono ?_
    rintro e w7 ⟨rfl, hb7⟩
    have hB7 := hB6.trans (hb7.mono hB6.size)
    have hla7 := held_below hla hB7
    have hg7 : HeldE w7 := hla7 0 _ rfl
    clear x0 y0 y1 y2 hg6 hla6 hB6 hb7 hB4
    go_wp2_with fail
    refine (refEno1 2 (by omega) w7 hg7).mono ?_
    rintro e w8 ⟨rfl, hb8⟩
    have hB8 := hB7.trans (hb8.mono hB7.size)
    clear hla7 hg7 hb8 hB7
    go_wp2_with fail
    refine (new_walk wh w8).mono ?_
    rintro e w9 ⟨rfl, rfl⟩
    have hB9 : Below w.heap.size w (w8.alloc (.cells #[.string wh] 62)) := hB8.alloc hB8.size _
    go_wp2_with fail
    refine (refStr ⟨w8.heap.size, 0, none⟩ _).mono ?_
    rintro e w10 ⟨rfl, hb10⟩
    have hB10 := hB9.trans (hb10.mono hB9.size)
    clear hB9 hb10 hB8
    go_wp2_with fail
    go_ret
    exact ⟨by simp, hB10⟩
  ·
    refine (wrap_walk (.iface 26 (.int .i64 m)) wh width w4 ⟨_, _, rfl⟩).mono ?_
    rintro e w5 ⟨rfl, rfl⟩
    obtain ⟨x0, x1, x2⟩ := three_cells w4 (.iface 26 (.int .i64 m)) (.string wh) (.int .i64 width) 56
    obtain ⟨y0, y1, y2⟩ := three_cells (w4.alloc (.cells #[.iface 26 (.int .i64 m), .string wh, .int .i64 width] 56)) (.iface 52 (.pointer (some ⟨w4.heap.size, 0, none⟩))) (.string outerS) (.int .i64 bytes) 56
    have hB6 : Below w.heap.size w ((w4.alloc (.cells #[.iface 26 (.int .i64 m), .string wh, .int .i64 width] 56)).alloc (.cells #[.iface 52 (.pointer (some ⟨w4.heap.size, 0, none⟩)), .string outerS, .int .i64 bytes] 56)) := (hB4.alloc hB4.size _).alloc (by rw [World.size_alloc]; exact Nat.le_succ_of_le hB4.size) _
    replace x0 := keep1 _ (.cells #[.iface 52 (.pointer (some ⟨w4.heap.size, 0, none⟩)), .string outerS, .int .i64 bytes] 56) _ _ x0
    rw [World.size_alloc] at y0 y1 y2
    have hla6 := held_below hla hB6
    have hg6 : HeldE ((w4.alloc (.cells #[.iface 26 (.int .i64 m), .string wh, .int .i64 width] 56)).alloc (.cells #[.iface 52 (.pointer (some ⟨w4.heap.size, 0, none⟩)), .string outerS, .int .i64 bytes] 56)) := hla6 0 _ rfl
    clear x1 x2 hla4
    go_wp2_with fail
    refine (wrap_walk (.iface 52 (.pointer (some ⟨w4.heap.size, 0, none⟩))) outerS bytes _ ⟨_, _, rfl⟩).mono ?_
    rintro e w6 ⟨rfl, rfl⟩
    go_wp2_with fail
    refine (refFault20 ⟨w4.heap.size + 1, 0, none⟩ ⟨w4.heap.size, 0, none⟩ m hm1 hm2 _ y0 x0).mono ?_
    rintro e w7 ⟨rfl, hb7⟩
    have hB7 := hB6.trans (hb7.mono hB6.size)
    have hla7 := held_below hla hB7
    have hg7 : HeldE w7 := hla7 0 _ rfl
    clear x0 y0 y1 y2 hg6 hla6 hB6 hb7 hB4
    go_wp2_with fail
    refine (refEno0 m hm1 hm2 w7).mono ?_
    rintro e w8 ⟨rfl, hb8⟩
    have hB8 := hB7.trans (hb8.mono hB7.size)
    clear hla7 hg7 hb8 hB7
    go_wp2_with fail
    refine (new_walk wh w8).mono ?_
    rintro e w9 ⟨rfl, rfl⟩
    have hB9 : Below w.heap.size w (w8.alloc (.cells #[.string wh] 62)) := hB8.alloc hB8.size _
    go_wp2_with fail
    refine (refStr ⟨w8.heap.size, 0, none⟩ _).mono ?_
    rintro e w10 ⟨rfl, hb10⟩
    have hB10 := hB9.trans (hb10.mono hB9.size)
    clear hB9 hb10 hB8
    go_wp2_with fail
    go_ret
    exact ⟨by simp [hm1, hm2], hB10⟩

end Go.Proofs.YtnldcpanpojeiaaGreatDoor
