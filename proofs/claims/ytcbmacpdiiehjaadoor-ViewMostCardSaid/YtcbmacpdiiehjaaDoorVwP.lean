/-
  The statements ViewErrors and ViewMost over their readings.
-/
import Derived.Test.YtcbmacpdiiehjaaDoorSh
import Derived.Test.YtcbmacpdiiehjaaDoorVwC
namespace Go.Proofs.YtcbmacpdiiehjaaDoor
set_option linter.all false
structure SmallW (ws : List Int) : Prop where
  nn : ∀ k, 0 ≤ ws.getD k 0
  le : ∀ k, ws.getD k 0 ≤ 2

theorem idx_of {α : Type} {xs : List α} {i : Int} {k : Nat} {x : α} (h : i = k) (hx : xs[k]? = some x) : idx xs i = some x := by
  subst h
  unfold idx
  rw [if_pos (by omega)]
  simpa using hx

/-! ### the line -/
theorem widths_F (ns : List Int) (hn : ns.length ≤ 2097152) (h8 : ∀ n ∈ ns, 0 ≤ n ∧ n ≤ 255) : law22_Widths_F ns = some (tab ns.length (fun i => (ns.getD i 0) % 3)) := by
  unfold law22_Widths_F
  refine Post.run (Post.bnd (count ns.length (fun k => (ns, tab k (fun i => (ns.getD i 0) % 3), (k : Int))) (r := tab ns.length (fun i => (ns.getD i 0) % 3)) rfl (fun k hk => ?_) ?_) (Post.pure rfl))
  · have hm := h8 (ns.getD k 0) (by simp [List.getD, hk])
    refine Post.brT (decide_eq_true (by dsimp only; omega)) (Post.idx 0 k rfl hk (Post.bnd (app_eq (by simp only [tab_len, List.length_cons, List.length_nil]; omega)) (Post.pure ?_)))
    dsimp only
    rw [Int.tmod_eq_emod_of_nonneg hm.1, wrap64 (n := ns.getD k 0 % 3) (by omega) (by omega), wrap_succ (by omega), tab_succ k (fun i => (ns.getD i 0) % 3)]
  · exact Post.brF (decide_eq_false (by dsimp only; omega)) (Post.pure rfl)
theorem widths_small {ns : List Int} : SmallW (tab ns.length (fun i => (ns.getD i 0) % 3)) := by
  have h : ∀ k, 0 ≤ (tab ns.length (fun i => (ns.getD i 0) % 3)).getD k 0 ∧ (tab ns.length (fun i => (ns.getD i 0) % 3)).getD k 0 ≤ 2 := by
    intro k
    by_cases hk : k < ns.length
    · rw [tab_getD _ _ hk]; omega
    · rw [getD_len (by rw [tab_len]; omega)]; omega
  exact ⟨fun k => (h k).1, fun k => (h k).2⟩

theorem line_F (ns ws : List Int) (hn : ns.length ≤ 2097152) (hw : ws.length ≤ 2097152) (h8 : ∀ n ∈ ws, 0 ≤ n ∧ n ≤ 255) :
    ∃ gs, law36_Line_F ns ws = some (gs, tab (min ns.length ws.length) (fun i => (ws.getD i 0) % 3)) ∧ gs.length = min ns.length ws.length := by
  obtain ⟨m, hm⟩ : ∃ m, m = min ns.length ws.length := ⟨_, rfl⟩
  have e0 : (if (ws.length : Int) < (ns.length : Int) then (ws.length : Int) else (ns.length : Int)) = (m : Int) := by split <;> omega
  have hl := loop_ex (L := fun s : List Int × List Int × Int × List Int × Int => law36_Line_L4 s.1 s.2.1 s.2.2.1 s.2.2.2.1 s.2.2.2.2)
    (I := fun s => ∃ (k : Nat) (out : List Int), k ≤ m ∧ out.length = k ∧ s = (ns, ws, (m : Int), out, (k : Int))) (m := fun s => m - s.2.2.2.2.toNat)
    (R := fun r => ∃ out : List Int, out.length = m ∧ r = (ws, (m : Int), out)) (s0 := (ns, ws, if (ws.length : Int) < (ns.length : Int) then (ws.length : Int) else (ns.length : Int), [], 0))
    (by
      rintro s ⟨k, out, hk, ho, rfl⟩
      dsimp only
      refine Post.br (fun hc => ?_) (fun hc => Post.pure ?_)
      · have hc := of_decide_eq_true hc
        refine Post.idx 0 k rfl (by omega) (Post.bnd (app_eq (by simp only [List.length_cons, List.length_nil]; omega)) (Post.pure ?_))
        dsimp only
        rw [wrap_succ (by omega)]
        exact ⟨⟨k + 1, _, by omega, by simp [ho], rfl⟩, by omega⟩
      · have hc := of_decide_eq_false hc
        exact ⟨out, by omega, rfl⟩)
    ⟨0, [], Nat.zero_le _, rfl, by rw [e0]; rfl⟩
  obtain ⟨r, h1, out, h2, rfl⟩ := hl
  refine ⟨out, ?_, by rw [h2, hm]⟩
  unfold law36_Line_F
  refine Post.run (Post.bnd h1 (Post.bnd (cut_take (n := m) rfl (show m ≤ ws.length by omega)) (Post.bnd (widths_F _ (by rw [List.length_take]; omega) (fun n hn => h8 n (List.mem_of_mem_take hn))) (Post.pure ?_))))
  dsimp only
  rw [List.length_take, show min m ws.length = m by omega, ← hm]
  refine congrArg (Prod.mk out) (tab_congr fun k hk => ?_)
  rw [take_getD 0 (by omega)]

/-! ### the document's examples -/
theorem text1 : view_Text_F [([97], 0, 0), ([19968], 1, 0), ([], 1, 1), ([98], 2, 0)] = some [97, 19968, 98] := by
  unfold view_Text_F
  exact Post.run (Post.bnd (loopW_eq (n := 5) (by rfl)) (Post.pure rfl))
theorem text2 : view_Text_F [([32], -1, 0), ([98], 2, 0), ([32], -1, 0)] = some [32, 98, 32] := by
  unfold view_Text_F
  exact Post.run (Post.bnd (loopW_eq (n := 5) (by rfl)) (Post.pure rfl))
theorem text3 : view_Text_F [([32], -1, 0), ([97], 0, 0)] = some [32, 97] := by
  unfold view_Text_F
  exact Post.run (Post.bnd (loopW_eq (n := 5) (by rfl)) (Post.pure rfl))
theorem row1 : view_Row_F [97, 19968, 98] [1, 2, 1] 0 4 = some ([([97], 0, 0), ([19968], 1, 0), ([], 1, 1), ([98], 2, 0)], none) := by rfl
theorem row2 : view_Row_F [97, 19968, 98] [1, 2, 1] 2 3 = some ([([32], -1, 0), ([98], 2, 0), ([32], -1, 0)], none) := by rfl
theorem row3 : view_Row_F [97, 19968, 98] [1, 2, 1] (-1) 2 = some ([([32], -1, 0), ([97], 0, 0)], none) := by rfl
theorem awake_F : law36_awake_F = some true := by
  unfold law36_awake_F
  refine Post.run (Post.bnd row1 (Post.bnd row2 (Post.bnd row3 (Post.brT rfl (Post.brT rfl (Post.brT rfl (Post.brT rfl (Post.bnd rfl (Post.brT rfl (Post.bnd rfl (Post.brT rfl (Post.bnd text1 (Post.brT (beq_self_eq_true _) (Post.bnd text2 (Post.brT ?_ (Post.bnd text3 (Post.pure ?_)))))))))))))))))
  · decide +kernel
  · decide +kernel

theorem told_F (k : Int) (hk : k ≠ 0) (e : ByteArray) (v : Int) : law02_Told_F (some (k, e, v)) k e v = some true := by
  unfold law02_Told_F
  exact Post.run (Post.brF (by simpa using hk) (Post.bnd rfl (Post.bnd rfl (Post.brT (by simp) (Post.brT (beq_self_eq_true _) (Post.pure (by simp)))))))

theorem viewErrors_F (ns ws : List Int) (fr cnt : Int) (h1 : ns.length ≤ 2097152) (h2 : ws.length ≤ 2097152) (h8 : ∀ n ∈ ns, 0 ≤ n ∧ n ≤ 255) (h8' : ∀ n ∈ ws, 0 ≤ n ∧ n ≤ 255) (hf : -32768 ≤ fr ∧ fr ≤ 32767) (hc : -32768 ≤ cnt ∧ cnt ≤ 32767) : law36_ViewErrors_F ns ws fr cnt = some true := by
  obtain ⟨gs, hgs, hgl⟩ := line_F ns ns h1 h1 h8
  have hw := widths_F ws h2 h8'
  have hwl : (tab ws.length (fun i => (ws.getD i 0) % 3)).length = ws.length := tab_len _ _
  generalize tab ws.length (fun i => (ws.getD i 0) % 3) = us at *
  rw [Nat.min_self] at hgl
  unfold law36_ViewErrors_F
  refine Post.run (Post.bnd awake_F (Post.brF rfl (Post.bnd hgs (Post.bnd hw ?_))))
  dsimp only
  rw [wrap64 (n := fr) (by omega) (by omega), wrap64 (n := cnt) (by omega) (by omega)]
  by_cases hn : cnt < 0
  · have hr : view_Row_F gs us fr cnt = some ([], some (2, ByteArray.mk #[99, 111, 117, 110, 116], cnt)) := by unfold view_Row_F; rw [if_pos (.inl hn)]
    exact Post.bnd hr (Post.brT (decide_eq_true hn) (Post.brT rfl (Post.bnd (told_F 2 (by decide) _ _) (Post.pure rfl))))
  · by_cases hl : gs.length = us.length
    · have hr : view_Row_F gs us fr cnt = some ((rowSt cnt.toNat fr gs us gs.length).1, none) := by
        unfold view_Row_F
        rw [if_neg (by omega), if_neg (by omega), if_pos ⟨by omega, by omega, by omega⟩]
      refine Post.bnd hr (Post.brF (decide_eq_false hn) (Post.brF (by simp [hl]) (Post.brT rfl (Post.pure ?_))))
      dsimp only
      rw [(rowSt_inv cnt.toNat fr gs us gs.length).1]
      simp
      omega
    · have hr : view_Row_F gs us fr cnt = some ([], some (6, ByteArray.mk #[103, 108, 121, 112, 104], (gs.length : Int))) := by
        unfold view_Row_F
        rw [if_neg (by omega), if_pos hl]
      exact Post.bnd hr (Post.brF (decide_eq_false hn) (Post.brT (by simp; omega) (Post.brT rfl (Post.bnd (told_F 6 (by decide) _ _) (Post.pure rfl)))))

theorem viewErrors_all (x : Tys.I [.sl (.int .u8), .sl (.int .u8), .int .i16, .int .i16]) (h : WfAll [.sl (.int .u8), .sl (.int .u8), .int .i16, .int .i16] x) (hb : bulkAll [.sl (.int .u8), .sl (.int .u8), .int .i16, .int .i16] x ≤ 1048576) : law36_ViewErrors_F x.1 x.2.1 x.2.2.1 x.2.2.2.1 = some true := by
  simp only [bulkAll, bulk] at hb
  have h16 : -32768 ≤ x.2.2.1 ∧ x.2.2.1 ≤ 32767 := by simpa [Wf, Lit.wf, IntKind.min, IntKind.max, IntKind.signed, IntKind.bits] using h.2.2.1
  have h16' : -32768 ≤ x.2.2.2.1 ∧ x.2.2.2.1 ≤ 32767 := by simpa [Wf, Lit.wf, IntKind.min, IntKind.max, IntKind.signed, IntKind.bits] using h.2.2.2.1
  exact viewErrors_F _ _ _ _ (by omega) (by omega) (fun n hn => wf_u8 (h.1.2 n hn)) (fun n hn => wf_u8 (h.2.1.2 n hn)) h16 h16'

/-! ### ViewMost -/
theorem most_row (v : Int) (hv : 0 ≤ v) : ∃ row : List Cl, view_Row_F [97] [v] 0 5 = some (row, none) ∧
    ((v = 0 ∧ row = [([32], -1, 0), ([32], -1, 0), ([32], -1, 0), ([32], -1, 0), ([32], -1, 0)]) ∨ (v = 1 ∧ row = [([97], 0, 0), ([32], -1, 0), ([32], -1, 0), ([32], -1, 0), ([32], -1, 0)]) ∨ (2 ≤ v ∧ row = [([97], 0, 0), ([], 0, 1), ([32], -1, 0), ([32], -1, 0), ([32], -1, 0)])) := by
  rcases (by omega : v = 0 ∨ v = 1 ∨ 2 ≤ v) with rfl | rfl | h
  · exact ⟨_, rfl, .inl ⟨rfl, rfl⟩⟩
  · exact ⟨_, rfl, .inr (.inl ⟨rfl, rfl⟩)⟩
  · refine ⟨_, rfl, .inr (.inr ⟨h, ?_⟩)⟩
    have e2 : two v = 2 := by unfold two; split <;> omega
    show (stepR 5 0 (rowSt 5 0 [97] [v] 0) 0 97 v).1 = _
    unfold stepR
    rw [e2]
    rfl

theorem most_loop (count wide : Int) (row : List Cl) (c : Int) (h : (row = [([32], -1, 0), ([32], -1, 0), ([32], -1, 0), ([32], -1, 0), ([32], -1, 0)] ∧ c = 0) ∨ (row = [([97], 0, 0), ([32], -1, 0), ([32], -1, 0), ([32], -1, 0), ([32], -1, 0)] ∧ c = 1) ∨ (row = [([97], 0, 0), ([], 0, 1), ([32], -1, 0), ([32], -1, 0), ([32], -1, 0)] ∧ c = 2)) :
    loopW (fun s : Int × Int × Int × List (List Int × Int × Int) × Int × Int => (law36_ViewMost_L8 s.1 s.2.1 s.2.2.1 s.2.2.2.1 s.2.2.2.2.1 s.2.2.2.2.2).run) (count, wide, 0, row, (row.length : Int), 0) = some (count, wide, c) := by
  rcases h with ⟨rfl, rfl⟩ | ⟨rfl, rfl⟩ | ⟨rfl, rfl⟩ <;> exact loopW_eq (n := 6) (by rfl)

theorem viewMost_F (count wide : Int) (hc : -9223372036854775808 ≤ count ∧ count ≤ 9223372036854775807) : law36_ViewMost_F count wide = some true := by
  unfold law36_ViewMost_F
  obtain ⟨row, hr, hrow⟩ := most_row (if wide > 0 then wide else 0) (by split <;> omega)
  obtain ⟨c, hcv⟩ : ∃ c, c = (if (if 2 < wide then 2 else wide) > 0 then (if 2 < wide then 2 else wide) else (0 : Int)) := ⟨_, rfl⟩
  have hl := most_loop count wide row c (by
    rcases hrow with ⟨h, rfl⟩ | ⟨h, rfl⟩ | ⟨h, rfl⟩
    · exact .inl ⟨rfl, by rw [hcv]; split at h <;> (repeat' split) <;> omega⟩
    · exact .inr (.inl ⟨rfl, by rw [hcv]; split at h <;> (repeat' split) <;> omega⟩)
    · exact .inr (.inr ⟨rfl, by rw [hcv]; split at h <;> (repeat' split) <;> omega⟩))
  have hlen : row.length = 5 := by rcases hrow with ⟨_, rfl⟩ | ⟨_, rfl⟩ | ⟨_, rfl⟩ <;> rfl
  refine Post.run (Post.bnd awake_F (Post.brF rfl (Post.bnd hr (Post.brF rfl (Post.brF (by simp [hlen]) (Post.bnd hl (Post.brF ?_ ?_)))))))
  · dsimp only
    rw [← hcv]
    simp
  · dsimp only
    have bad : count < 0 ∨ 65536 < count → view_Row_F [] [] 0 count = some ([], some (2, ByteArray.mk #[99, 111, 117, 110, 116], count)) := fun h => by unfold view_Row_F; rw [if_pos h]
    refine Post.br (fun h0 => Post.br (fun _ => Post.pure rfl) (fun h1 => ?_)) (fun h0 => ?_)
    · have h1 := of_decide_eq_false h1
      exact Post.bnd (bad (.inr (by omega))) (Post.brT rfl (Post.bnd (told_F 2 (by decide) _ _) (Post.pure rfl)))
    · have h0 := of_decide_eq_false h0
      exact Post.bnd (bad (.inl (by omega))) (Post.brT rfl (Post.bnd (told_F 2 (by decide) _ _) (Post.pure rfl)))

theorem viewMost_all (x : Tys.I [.int .i64, .int .i64]) (h : WfAll [.int .i64, .int .i64] x) : law36_ViewMost_F x.1 x.2.1 = some true := viewMost_F _ _ (wf_i64 h.1)

end Go.Proofs.YtcbmacpdiiehjaaDoor
