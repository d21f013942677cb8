/-
  The laws of the base return true: what stands within an isolate, and behind the first strong class.
-/
import Derived.Test.YtfljkcfahhkfbaaLawBase
namespace Go.Proofs.Ytfljkcfahhkfbaa

def inner (cs : List Int) : List Int := cs.filter fun c => !iso c && c != 22

theorem first_inner (inside : Bool) (other : Int) : ∀ (l r : List Int), (∀ c ∈ l, iso c = false ∧ c ≠ 22) → first inside other (l ++ 22 :: r) 1 = first inside other r 0
  | [], r, _ => by
    rw [List.nil_append, first_cons, if_neg (by simp [iso]), if_pos ⟨rfl, by omega⟩]
  | c :: l, r, h => by
    have hc := h c (by simp)
    rw [List.cons_append, first_cons, if_neg (by simp [hc.1]), if_neg (fun e => hc.2 e.1), if_neg (fun e => hc.2 e.1), if_neg (fun e => by omega)]
    exact first_inner inside other l r fun x hx => h x (by simp [hx])

theorem inner_mem (cs : List Int) : ∀ c ∈ inner cs, iso c = false ∧ c ≠ 22 := by
  intro c hc
  have := (List.mem_filter.1 hc).2
  simpa using this
theorem inner_len (cs : List Int) : (inner cs).length ≤ cs.length := List.length_filter_le _ _
theorem inner_take (cs : List Int) {k : Nat} (hk : k < cs.length) : inner (cs.take (k + 1)) = inner (cs.take k) ++ (if !iso (cs.getD k 0) && cs.getD k 0 != 22 then [cs.getD k 0] else []) := by
  have e : cs.take (k + 1) = cs.take k ++ [cs.getD k 0] := by
    rw [List.take_add_one]
    simp [List.getD, hk]
  unfold inner
  rw [e, List.filter_append]
  congr 1
  by_cases h : (!iso (cs.getD k 0) && cs.getD k 0 != 22) = true
  · rw [if_pos h, List.filter_cons_of_pos (by exact h)]; rfl
  · rw [if_neg h, List.filter_cons_of_neg (by exact h)]; rfl

theorem baseSkips_true (ns ms : List Int) (kind other : Int) (hn : ns.length + ms.length ≤ 2097152) (h8 : ∀ n ∈ ns, 0 ≤ n ∧ n ≤ 255) (m8 : ∀ n ∈ ms, 0 ≤ n ∧ n ≤ 255) (hk8 : 0 ≤ kind ∧ kind ≤ 255) : law10_BaseSkips_F ns ms kind other = some true := by
  obtain ⟨cs, hc, hlen, _, _⟩ := classes_F ns (by omega) h8
  obtain ⟨ds, hd, hlend, _, _⟩ := classes_F ms (by omega) m8
  unfold law10_BaseSkips_F law10_BaseSkips_T
  have hl := loopW_count (f := fun s : Int × Int × List Int × List Int × List Int × Int × Int => (law10_BaseSkips_L6 s.1 s.2.1 s.2.2.1 s.2.2.2.1 s.2.2.2.2.1 s.2.2.2.2.2.1 s.2.2.2.2.2.2).run) ds.length
    (fun k => (kind, other, cs, inner (ds.take k), ds, (ds.length : Int), (k : Int))) (r := (kind, other, cs, inner ds)) ?_ ?_
  · rw [show ((0 : Nat) : Int) = 0 from rfl, show inner (ds.take 0) = [] from rfl] at hl
    have hin := inner_len ds
    have hm : kind.tmod 3 = kind % 3 := Int.tmod_eq_emod_of_nonneg hk8.1
    rw [Tr.run_bnd_some awake10, Tr.run_br, if_neg (by simp), Tr.run_bnd_some hc, Tr.run_bnd_some hd, Tr.run_bnd_some hl]
    dsimp only
    rw [hm, wrapU8 (by omega) (by omega), Tr.run_bnd_some (app_eq (by simp only [List.length_cons, List.length_nil]; omega)), Tr.run_bnd_some (app_eq (by simp only [List.length_append, List.length_cons, List.length_nil]; omega)),
      Tr.run_bnd_some (app_eq (by simp only [List.length_append, List.length_cons, List.length_nil]; omega)), Tr.run_bnd_some (app_eq (by simp only [List.length_cons, List.length_nil]; omega)),
      Tr.run_bnd_some (first_F _ _ _ (by simp only [List.length_append, List.length_cons, List.length_nil]; omega)), Tr.run_bnd_some (first_F _ _ _ (by omega)), Tr.run_br]
    have hiso : iso (19 + kind % 3) = true := by
      have : kind % 3 = 0 ∨ kind % 3 = 1 ∨ kind % 3 = 2 := by omega
      rcases this with e | e | e <;> rw [e] <;> rfl
    have e1 : first false other ((([19 + kind % 3] ++ inner ds) ++ [22]) ++ cs) 0 = first false other cs 0 := by
      simp only [List.append_assoc, List.cons_append, List.nil_append]
      rw [first_cons, if_pos hiso]
      exact first_inner false other _ _ (inner_mem ds)
    rw [if_pos (by rw [e1]; simp), Tr.run_bnd_some (first_F _ _ _ (by simp only [List.length_append, List.length_cons, List.length_nil]; omega)), Tr.run_pure]
    rfl
  · intro k hk
    dsimp only
    unfold law10_BaseSkips_L6
    have hin := inner_len (ds.take k)
    rw [List.length_take] at hin
    rw [Tr.run_br, if_pos (by simp; omega), Tr.run_bnd_some (idx_getD 0 rfl hk), Tr.run_bnd_some (isolate_F _), Tr.run_br, wrap64 (n := (k : Int) + 1) (by omega) (by omega), inner_take ds hk]
    generalize ds.getD k 0 = c
    by_cases h1 : iso c = true
    · rw [if_neg (by simp [h1]), Tr.run_pure]
      simp [h1]
    · rw [if_pos (by simp [h1]), Tr.run_br]
      by_cases h2 : c = 22
      · rw [if_neg (by simp [h2]), Tr.run_pure]
        simp [h2]
      · rw [if_pos (by simpa using h2), Tr.run_bnd_some (app_eq (by simp only [List.length_cons, List.length_nil]; omega)), Tr.run_pure]
        simp [h1, h2]
  · dsimp only
    unfold law10_BaseSkips_L6
    rw [Tr.run_br, if_neg (by simp), Tr.run_pure, List.take_length]

theorem baseSkips_all (x : Tys.I [.sl (.int .u8), .sl (.int .u8), .int .u8, .int .i64]) (h : WfAll [.sl (.int .u8), .sl (.int .u8), .int .u8, .int .i64] x) (hb : bulkAll [.sl (.int .u8), .sl (.int .u8), .int .u8, .int .i64] x ≤ 1048576) :
    law10_BaseSkips_F x.1 x.2.1 x.2.2.1 x.2.2.2.1 = some true := by
  simp only [bulkAll, bulk] at hb
  exact baseSkips_true _ _ _ _ (by omega) (fun n hn => wf_u8 (h.1.2 n hn)) (fun n hn => wf_u8 (h.2.1.2 n hn)) (wf_u8 h.2.2.1)

end Go.Proofs.Ytfljkcfahhkfbaa
