/-
  NeutralBrackets returns true.
-/
import Derived.Test.YtaahkcepdgmagaaDoorLawNeuK
namespace Go.Proofs.YtaahkcepdgmagaaDoor
set_option linter.all false

theorem cls_take {xs : List Int} (h : Cls xs) (n : Nat) : Cls (xs.take n) := fun k => by
  have hk := h k
  simp only [List.getD, List.getElem?_take] at hk ⊢
  by_cases e : k < n
  · rw [if_pos e]; exact hk
  · rw [if_neg e]; exact ⟨by simp, by simp⟩
theorem side_is (b : Bool) : (if b = true then (1 : Int) else 0) = 0 ∨ (if b = true then (1 : Int) else 0) = 1 := by cases b <;> simp
theorem mod_is {l : Int} (h : 0 ≤ l ∧ l ≤ 255) : IntKind.i64.wrap (l.tmod 126) = l % 126 := by
  rw [Int.tmod_eq_emod_of_nonneg h.1, wrap64 (by omega) (by omega)]
theorem cut_law (rs ns ms : List Int) (h1 : rs.length ≤ 1048576) (h2 : ns.length ≤ 1048576) (h3 : ms.length ≤ 1048576) (w2 : ∀ n ∈ ns, 0 ≤ n ∧ n ≤ 255) (w3 : ∀ n ∈ ms, 0 ≤ n ∧ n ≤ 255) :
    ∃ n s a b, law16_Cut_F rs ns ms = some (s, a, b) ∧ n ≤ 1048576 ∧ s = rs.take n ∧ s.length = n ∧ a.length = n ∧ b.length = n ∧ Cls a ∧ Cls b := by
  have ha := classes_F ns (by omega) w2
  have hb := classes_F ms (by omega) w3
  have ca := classes_ok ns
  have cb := classes_ok ms
  generalize (tab ns.length fun i => ns.getD i 0 % 23) = a at ha ca
  generalize (tab ms.length fun i => ms.getD i 0 % 23) = b at hb cb
  obtain ⟨n, hn, n1, n2, n3⟩ : ∃ n : Nat, (n : Int) = (if (b.length : Int) < (if (a.length : Int) < (rs.length : Int) then (a.length : Int) else (rs.length : Int)) then (b.length : Int) else (if (a.length : Int) < (rs.length : Int) then (a.length : Int) else (rs.length : Int))) ∧ n ≤ rs.length ∧ n ≤ a.length ∧ n ≤ b.length := by
    refine ⟨min (min rs.length a.length) b.length, ?_, by omega, by omega, by omega⟩
    split <;> split <;> omega
  refine ⟨n, rs.take n, a.take n, b.take n, ?_, by omega, rfl, by rw [List.length_take]; omega, by rw [List.length_take]; omega, by rw [List.length_take]; omega, cls_take ca n, cls_take cb n⟩
  unfold law16_Cut_F law16_Cut_T
  refine Post.run (Post.bnd ha (Post.bnd hb ?_))
  rw [← hn]
  exact Post.bnd (cut_take rfl n1) (Post.bnd (cut_take rfl n2) (Post.bnd (cut_take rfl n3) (Post.pure rfl)))
theorem apart {rs first cs : List Int} {l sos : Int} (hn : cs.length ≤ 4194304) (h : rs.length ≠ cs.length ∨ first.length ≠ cs.length) : neutral_Brackets_F rs first cs l sos = some cs := by
  unfold neutral_Brackets_F neutral_Brackets_T
  refine Post.run (Post.bnd (clone_F cs (by omega)) ?_)
  by_cases e : rs.length = cs.length
  · exact Post.brF (by rw [e]; simp) (Post.brT (by rcases h with h | h; exact absurd e h; simpa using (by omega : ¬ (first.length : Int) = cs.length)) (Post.pure rfl))
  · exact Post.brT (by simpa using (by omega : ¬ (rs.length : Int) = cs.length)) (Post.pure rfl)
theorem neutralBrackets_F (rs ns ms : List Int) (level : Int) (right : Bool) (h1 : rs.length ≤ 1048576) (h2 : ns.length ≤ 1048576) (h3 : ms.length ≤ 1048576) (w1 : ∀ x ∈ rs, -2147483648 ≤ x ∧ x ≤ 2147483647) (w2 : ∀ n ∈ ns, 0 ≤ n ∧ n ≤ 255) (w3 : ∀ n ∈ ms, 0 ≤ n ∧ n ≤ 255) (hl : 0 ≤ level ∧ level ≤ 255) : law16_NeutralBrackets_F rs ns ms level right = some true := by
  obtain ⟨n, s, a, b, hcut, hn, hs, ls, la, lb, ca, cb⟩ := cut_law rs ns ms h1 h2 h3 w2 w3
  have sd := side_is right
  obtain ⟨r, ws, lr, cr, hr, hw, hrr⟩ := brackets_both s a b (if right = true then 1 else 0) (level % 126) sd (by omega) ls la lb (by omega) (fun x hx => w1 x (by rw [hs] at hx; exact List.mem_of_mem_take hx))
  have hc2 := classes_F ns (by omega) w2
  have hc3 := classes_F ms (by omega) w3
  have c3 := classes_ok ms
  have l2 : (tab ns.length fun i => ns.getD i 0 % 23).length = ns.length := tab_len _ _
  have l3 : (tab ms.length fun i => ms.getD i 0 % 23).length = ms.length := tab_len _ _
  generalize (tab ns.length fun i => ns.getD i 0 % 23) = a2 at hc2 l2
  generalize (tab ms.length fun i => ms.getD i 0 % 23) = b2 at hc3 c3 l3
  unfold law16_NeutralBrackets_F law16_NeutralBrackets_T
  rw [mod_is hl]
  have hws : IntKind.i64.wrap (if right = true then (1 : Int) else 0) = (if right = true then 1 else 0) := wrap64 (by omega) (by omega)
  refine Post.run (Post.bnd awake16 (Post.brF rfl (Post.bnd hcut (Post.bnd (side14_F right) ?_))))
  rw [hws]
  refine Post.bnd hw (Post.bnd (ints_F a (by omega) ca) (Post.bnd (ints_F b (by omega) cb) (Post.bnd hrr (Post.bnd hr (Post.bnd (like_F r (by omega) (cr cb)) (Post.brF rfl (Post.bnd hc3 ?_)))))))
  by_cases e1 : rs.length = b2.length
  · refine Post.brT (by rw [e1]; simp) ?_
    by_cases e2 : ns.length = b2.length
    · exact Post.brT (by rw [e2]; simp) (Post.pure rfl)
    · refine Post.brF (by rw [beq_eq_false_iff_ne]; omega) (Post.bnd hc2 (Post.bnd (apart (by omega) (.inr (by omega))) (Post.bnd (ints_F b2 (by omega) c3) (Post.bnd (like_F b2 (by omega) c3) (Post.pure rfl)))))
  · refine Post.brF (by rw [beq_eq_false_iff_ne]; omega) (Post.bnd hc2 (Post.bnd (apart (by omega) (.inl (by omega))) (Post.bnd (ints_F b2 (by omega) c3) (Post.bnd (like_F b2 (by omega) c3) (Post.pure rfl)))))
theorem neutralBrackets_all (x : Tys.I [.sl (.int .i32), .sl (.int .u8), .sl (.int .u8), .int .u8, .bool]) (h : WfAll [.sl (.int .i32), .sl (.int .u8), .sl (.int .u8), .int .u8, .bool] x) (hb : bulkAll [.sl (.int .i32), .sl (.int .u8), .sl (.int .u8), .int .u8, .bool] x ≤ 1048576) : law16_NeutralBrackets_F x.1 x.2.1 x.2.2.1 x.2.2.2.1 x.2.2.2.2.1 = some true := by
  simp only [bulkAll, bulk] at hb
  exact neutralBrackets_F _ _ _ _ _ (by omega) (by omega) (by omega) (fun n hn => wf_i32 (h.1.2 n hn)) (fun n hn => wf_u8 (h.2.1.2 n hn)) (fun n hn => wf_u8 (h.2.2.1.2 n hn)) (wf_u8 h.2.2.2.1)

end Go.Proofs.YtaahkcepdgmagaaDoor
