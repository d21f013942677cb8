/-
  NeutralPlain returns true.
-/
import Derived.Test.YtaahkcepdgmagaaDoorLawNeuL
namespace Go.Proofs.YtaahkcepdgmagaaDoor
set_option linter.all false

theorem plainLoop (level : Int) (right : Bool) (s : List Int) {n : Nat} (hn : n ≤ 4194304) (hs : s.length = n) {a : List Int} (ha : a.length = n) (ca : Cls a) :
    ∃ r, loopW (fun s : Int × Bool × List Int × List Int × Int => (law16_NeutralPlain_L5 s.1 s.2.1 s.2.2.1 s.2.2.2.1 s.2.2.2.2).run) (level, right, s, a, 0) = some r ∧ ∃ b, r = (level, right, s, b) ∧ b.length = n ∧ Cls b := by
  refine loop_ex (L := fun s : Int × Bool × List Int × List Int × Int => law16_NeutralPlain_L5 s.1 s.2.1 s.2.2.1 s.2.2.2.1 s.2.2.2.2)
    (fun t => ∃ (k : Nat) (b : List Int), k ≤ n ∧ b.length = n ∧ Cls b ∧ t = (level, right, s, b, (k : Int))) (fun t => n - t.2.2.2.2.toNat) ?_ ⟨0, a, by omega, ha, ca, rfl⟩
  rintro t ⟨k, b, hk, hb, cb, rfl⟩
  dsimp only
  unfold law16_NeutralPlain_L5
  by_cases e : k < n
  · have hset : ∃ (j : Nat) (c : List Int), j ≤ n ∧ c.length = n ∧ Cls c ∧ (level, right, s, b.set (Int.toNat (k : Int)) 13, IntKind.i64.wrap ((k : Int) + 1)) = (level, right, s, c, (j : Int)) :=
      ⟨k + 1, b.set (Int.toNat (k : Int)) 13, e, by rw [List.length_set]; exact hb, cls_set cb (by omega), by rw [wrap_succ (by omega)]⟩
    have hm : n - (IntKind.i64.wrap ((k : Int) + 1)).toNat < n - ((k : Int)).toNat := by rw [wrap_succ (by omega)]; omega
    refine Post.brT (by rw [decide_eq_true_eq]; omega) (Post.idx 0 k rfl (by omega) (Post.br (fun _ => Post.idx 0 k rfl (by omega) (Post.pure ⟨hset, hm⟩)) (fun _ => Post.idx 0 k rfl (by omega) (Post.br (fun _ => Post.idx 0 k rfl (by omega) (Post.pure ⟨hset, hm⟩)) (fun _ => Post.idx 0 k rfl (by omega) (Post.br (fun _ => Post.idx 0 k rfl (by omega) (Post.pure ⟨hset, hm⟩)) (fun _ => Post.idx 0 k rfl (by omega) (Post.br (fun _ => Post.idx 0 k rfl (by omega) (Post.pure ⟨hset, hm⟩)) (fun _ => Post.pure ⟨⟨k + 1, b, e, hb, cb, by rw [wrap_succ (by omega)]⟩, hm⟩)))))))))
  · exact Post.brF (by rw [decide_eq_false_iff_not]; omega) (Post.pure ⟨b, rfl, hb, cb⟩)
theorem neutralPlain_F (rs ns : List Int) (level : Int) (right : Bool) (h1 : rs.length ≤ 1048576) (h2 : ns.length ≤ 1048576) (w1 : ∀ x ∈ rs, -2147483648 ≤ x ∧ x ≤ 2147483647) (w2 : ∀ n ∈ ns, 0 ≤ n ∧ n ≤ 255) (hl : 0 ≤ level ∧ level ≤ 255) : law16_NeutralPlain_F rs ns level right = some true := by
  obtain ⟨n, s, a, b, hcut, hn, hs, ls, la, lb, ca, cb⟩ := cut_law rs ns ns h1 h2 h2 w2 w2
  have sd := side_is right
  obtain ⟨_, hloop, c, rfl, lc, cc⟩ := plainLoop level right s (by omega : n ≤ 4194304) ls la ca
  obtain ⟨r, ws, lr, cr, hr, hw, hrr⟩ := brackets_both s c c (if right = true then 1 else 0) (level % 126) sd (by omega) ls lc lc (by omega) (fun x hx => w1 x (by rw [hs] at hx; exact List.mem_of_mem_take hx))
  unfold law16_NeutralPlain_F law16_NeutralPlain_T
  have hws : IntKind.i64.wrap (if right = true then (1 : Int) else 0) = (if right = true then 1 else 0) := wrap64 (by omega) (by omega)
  refine Post.run (Post.bnd awake16 (Post.brF rfl (Post.bnd hcut (Post.bnd hloop ?_))))
  dsimp only
  rw [mod_is hl]
  refine Post.bnd (side14_F right) ?_
  rw [hws]
  exact Post.bnd hw (Post.bnd (ints_F c (by omega) cc) (Post.bnd (ints_F c (by omega) cc) (Post.bnd hrr (Post.bnd hr (Post.bnd (like_F r (by omega) (cr cc)) (Post.pure rfl))))))
theorem neutralPlain_all (x : Tys.I [.sl (.int .i32), .sl (.int .u8), .int .u8, .bool]) (h : WfAll [.sl (.int .i32), .sl (.int .u8), .int .u8, .bool] x) (hb : bulkAll [.sl (.int .i32), .sl (.int .u8), .int .u8, .bool] x ≤ 1048576) : law16_NeutralPlain_F x.1 x.2.1 x.2.2.1 x.2.2.2.1 = some true := by
  simp only [bulkAll, bulk] at hb
  exact neutralPlain_F _ _ _ _ (by omega) (by omega) (fun n hn => wf_i32 (h.1.2 n hn)) (fun n hn => wf_u8 (h.2.1.2 n hn)) (wf_u8 h.2.2.1)

end Go.Proofs.YtaahkcepdgmagaaDoor
