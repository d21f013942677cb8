/-
  Widths and where each begins.
-/
import Derived.Test.YtiijkbdffbjehaaSh
import Derived.Test.YtiijkbdffbjehaaEvMath
namespace Go.Proofs.Ytiijkbdffbjehaa
set_option linter.all false

/-- the cells ahead of place k, wrapped as the program's -/
def pre (ws : List Int) (k : Nat) : Int := (List.range k).foldl (fun a i => IntKind.i64.wrap (a + ws.getD i 0)) 0
theorem pre_zero (ws : List Int) : pre ws 0 = 0 := rfl
theorem pre_succ (ws : List Int) (k : Nat) : pre ws (k + 1) = IntKind.i64.wrap (pre ws k + ws.getD k 0) := by
  simp [pre, List.range_succ]

theorem starts_F (ws : List Int) (hn : ws.length ≤ 4194304) : cells_Starts_F ws = some (tab ws.length (pre ws), pre ws ws.length) := by
  unfold cells_Starts_F cells_Starts_T
  rw [Tr.run_bnd_some (mk_eq rfl (by omega))]
  have hl := loopW_count (f := fun s : List Int × Int × List Int × Int × Int => (cells_Starts_L4 s.1 s.2.1 s.2.2.1 s.2.2.2.1 s.2.2.2.2).run) ws.length
    (fun k => (tab ws.length (fun i => if i < k then pre ws i else 0), pre ws k, ws, (ws.length : Int), (k : Int))) (r := (tab ws.length (pre ws), pre ws ws.length)) ?_ ?_
  · have e : (tab ws.length (fun i => if i < 0 then pre ws i else 0), pre ws 0, ws, (ws.length : Int), ((0 : Nat) : Int)) = (List.replicate ws.length (0 : Int), (0 : Int), ws, (ws.length : Int), (0 : Int)) := by
      rw [tab_rep]; simp [pre_zero]
    rw [e] at hl
    rw [Tr.run_bnd_some hl]
    rfl
  · intro k hk
    dsimp only
    unfold cells_Starts_L4
    rw [Tr.run_br, if_pos (by simp; omega), Tr.run_bnd_some (idx_getD 0 rfl hk), Tr.run_bnd_some (idx_tab rfl hk), Tr.run_pure]
    rw [show Int.toNat (k : Int) = k from rfl, tab_set, ← pre_succ, wrap64 (by omega) (by omega)]
    congr 3
    apply tab_congr
    intro i hi
    by_cases h1 : i = k
    · subst h1; simp
    · simp only [h1, if_false]
      by_cases h2 : i < k
      · simp [h2, show i < k + 1 by omega]
      · simp [h2, show ¬ i < k + 1 by omega]
  · dsimp only
    unfold cells_Starts_L4
    rw [Tr.run_br, if_neg (by simp), Tr.run_pure]
    congr 3
    apply tab_congr
    intro i hi
    simp [hi]

/-! ### widths of 0, 1 or 2 -/
def Small (ws : List Int) : Prop := ws.length ≤ 4194304 ∧ ∀ k, 0 ≤ ws.getD k 0 ∧ ws.getD k 0 ≤ 2
theorem pre_small {ws : List Int} (h : Small ws) : ∀ k, k ≤ ws.length → 0 ≤ pre ws k ∧ pre ws k ≤ 2 * k
  | 0, _ => by simp [pre_zero]
  | k + 1, hk => by
    have ih := pre_small h k (by omega)
    have := h.2 k
    have := h.1
    rw [pre_succ, wrap64 (by omega) (by omega)]
    omega
theorem pre_next {ws : List Int} (h : Small ws) {k : Nat} (hk : k < ws.length) : pre ws (k + 1) = pre ws k + ws.getD k 0 := by
  have ih := pre_small h k (by omega)
  have := h.2 k
  have := h.1
  rw [pre_succ, wrap64 (by omega) (by omega)]
theorem pre_mono {ws : List Int} (h : Small ws) {i : Nat} : ∀ {j : Nat}, i ≤ j → j ≤ ws.length → pre ws i ≤ pre ws j
  | 0, hi, _ => by rw [show i = 0 by omega]; omega
  | j + 1, hi, hj => by
    by_cases e : i = j + 1
    · subst e; omega
    · have := pre_mono h (i := i) (j := j) (by omega) (by omega)
      have := h.2 j
      rw [pre_next h (by omega)]
      omega

theorem widths_F (ns : List Int) (hn : ns.length ≤ 2097152) (h8 : ∀ n ∈ ns, 0 ≤ n ∧ n ≤ 255) : ∃ ws, law22_Widths_F ns = some ws ∧ Small ws ∧ ws.length = ns.length := by
  refine ⟨tab ns.length (fun i => (ns.getD i 0) % 3), ?_, ⟨by rw [tab_len]; omega, ?_⟩, tab_len _ _⟩
  · unfold law22_Widths_F law22_Widths_T
    have hl := loopW_count (f := fun s : List Int × List Int × Int => (law22_Widths_L3 s.1 s.2.1 s.2.2).run) ns.length
      (fun k => (ns, tab k (fun i => (ns.getD i 0) % 3), (k : Int))) (r := tab ns.length (fun i => (ns.getD i 0) % 3)) ?_ ?_
    · rw [show (ns, tab 0 (fun i => (ns.getD i 0) % 3), ((0 : Nat) : Int)) = (ns, ([] : List Int), (0 : Int)) from rfl] at hl
      rw [Tr.run_bnd_some hl]
      rfl
    · intro k hk
      dsimp only
      unfold law22_Widths_L3
      have hm := h8 (ns.getD k 0) (by simp [List.getD, hk])
      rw [Tr.run_br, if_pos (by simp; omega), Tr.run_bnd_some (idx_getD 0 rfl hk), Tr.run_bnd_some (app_eq (by simp only [tab_len, List.length_cons, List.length_nil]; omega)), Tr.run_pure, Int.tmod_eq_emod_of_nonneg hm.1, wrap64 (n := ns.getD k 0 % 3) (by omega) (by omega),
        wrap64 (by omega) (by omega), tab_succ k (fun i => (ns.getD i 0) % 3)]
      rfl
    · dsimp only
      unfold law22_Widths_L3
      rw [Tr.run_br, if_neg (by simp), Tr.run_pure]
  · intro k
    by_cases hk : k < ns.length
    · rw [List.getD, tab_get _ hk]
      simp only [Option.getD_some]
      omega
    · rw [List.getD, List.getElem?_eq_none (by rw [tab_len]; omega)]
      simp

end Go.Proofs.Ytiijkbdffbjehaa
