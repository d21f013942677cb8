/-
  LevelsPlain returns true.
-/
import Derived.Test.YtenbhmjcoljddaaDoorLvA
namespace Go.Proofs.YtenbhmjcoljddaaDoor
set_option linter.all false

theorem pl_a : ∀ m : Fin 50, parN (List.replicate m.1 0) 0 = List.replicate m.1 0 := by decide +kernel
theorem pl_b : ∀ m : Fin 50, parN (List.replicate m.1 1) 1 = List.replicate m.1 1 := by decide +kernel
theorem pl_c : ∀ m : Fin 50, parN (List.replicate m.1 1) 0 = List.replicate m.1 1 := by decide +kernel
theorem bs_a : ∀ m : Fin 50, bs 0 (List.replicate m.1 0) = 0 := by decide +kernel
theorem bs_b : ∀ m : Fin 50, 0 < m.1 → bs 0 (List.replicate m.1 1) = 1 := by decide +kernel
theorem let_a : ∀ i : Fin 26, Bd.finds Bd.bidicT (97 + i.1) 0 = 0 ∧ Nu.brV (97 + i.1) = (0, 0) := by decide +kernel
theorem let_b : ∀ i : Fin 27, Bd.finds Bd.bidicT (1488 + i.1) 0 = 1 ∧ Nu.brV (1488 + i.1) = (0, 0) := by decide +kernel
def la (i : Nat) : Int := 97 + ((i % 26 : Nat) : Int)
def lh (i : Nat) : Int := 1488 + ((i % 27 : Nat) : Int)
theorem fa (i : Nat) : Bd.finds Bd.bidicT (la i) 0 = 0 ∧ Nu.brV (la i) = (0, 0) := let_a ⟨i % 26, Nat.mod_lt _ (by decide)⟩
theorem fh (i : Nat) : Bd.finds Bd.bidicT (lh i) 0 = 1 ∧ Nu.brV (lh i) = (0, 0) := let_b ⟨i % 27, Nat.mod_lt _ (by decide)⟩
theorem cl_tab {m : Nat} {g : Nat → Int} {c : Int} (h : ∀ i, Bd.finds Bd.bidicT (g i) 0 = c) : cl4 (tab m g) = List.replicate m c := by
  unfold cl4
  rw [tab_len, tab_rep]
  exact tab_congr fun k hk => by rw [tab_getD _ _ hk]; exact h k
theorem br_tab {m : Nat} {g : Nat → Int} (h : ∀ i, Nu.brV (g i) = (0, 0)) : ∀ x ∈ tab m g, Nu.brV x = (0, 0) := by
  intro x hx
  unfold tab at hx
  obtain ⟨i, _, rfl⟩ := List.mem_map.1 hx
  exact h i
theorem of_empty {d : Int} (hd : 0 ≤ d ∧ d ≤ 2) : ∃ x, levels_Of_F [] d = some (x, none) := by
  obtain ⟨ps, _, _, h⟩ := of_F [] (by decide) hd
  exact ⟨_, h⟩
theorem of_letters {m : Nat} (hm : m < 50) {g : Nat → Int} {c v : Int} (hc : c ≠ 10) (h : ∀ i, Bd.finds Bd.bidicT (g i) 0 = c ∧ Nu.brV (g i) = (0, 0)) {d : Int} (hd : 0 ≤ d ∧ d ≤ 2) (hp : 0 < m → parN (List.replicate m c) (bs d (List.replicate m c)) = List.replicate m v) :
    ∃ x : Tx, levels_Of_F (tab m g) d = some (x, none) ∧ (0 < m → x.2.1 = List.replicate m v) := by
  rcases Nat.eq_zero_or_pos m with e | e
  · subst e
    obtain ⟨x, hx⟩ := of_empty hd
    exact ⟨x, hx, fun h => by omega⟩
  · have hcl := cl_tab (m := m) (g := g) (fun i => (h i).1)
    have := of_plain (tab m g) (by rw [tab_len]; exact e) (by rw [tab_len]; omega) hd (fun k hk => by
      rw [tab_len] at hk
      rw [hcl]
      simpa [List.getD, hk] using hc) (br_tab fun i => (h i).2)
    rw [hcl, hp e] at this
    exact ⟨_, this, fun _ => rfl⟩
theorem wr (k : Nat) (hk : k < 50) : IntKind.i32.wrap (IntKind.i64.wrap (97 + ((k : Int).tmod 26))) = la k ∧ IntKind.i32.wrap (IntKind.i64.wrap (1488 + ((k : Int).tmod 27))) = lh k := by
  have := (by decide +kernel : ∀ k : Fin 50, IntKind.i32.wrap (IntKind.i64.wrap (97 + ((k.1 : Int).tmod 26))) = la k.1 ∧ IntKind.i32.wrap (IntKind.i64.wrap (1488 + ((k.1 : Int).tmod 27))) = lh k.1) ⟨k, hk⟩
  exact this
theorem levelsPlain_F (n : Int) (hn : 0 ≤ n ∧ n ≤ 255) : law18_LevelsPlain_F n = some true := by
  obtain ⟨m, hm, e⟩ : ∃ m : Nat, m < 50 ∧ IntKind.i64.wrap (n.tmod 50) = (m : Int) := by
    refine ⟨(n % 50).toNat, by omega, ?_⟩
    rw [Int.tmod_eq_emod_of_nonneg hn.1, wrap64 (by omega) (by omega)]
    omega
  have hb0 : 0 < m → bs 0 (List.replicate m 1) = 1 := fun h => bs_b ⟨m, hm⟩ h
  obtain ⟨x, hx, vx⟩ := of_letters hm (c := 0) (v := 0) (by decide) fa (d := 0) (by decide) (fun _ => by rw [bs_a ⟨m, hm⟩]; exact pl_a ⟨m, hm⟩)
  obtain ⟨y, hy, vy⟩ := of_letters hm (c := 1) (v := 1) (by decide) fh (d := 0) (by decide) (fun h => by rw [hb0 h]; exact pl_b ⟨m, hm⟩)
  obtain ⟨z, hz, vz⟩ := of_letters hm (c := 1) (v := 1) (by decide) fh (d := 1) (by decide) (fun _ => pl_c ⟨m, hm⟩)
  unfold law18_LevelsPlain_F law18_LevelsPlain_T
  refine Post.run (Post.bnd awake18 (Post.brF rfl (Post.bnd (count (L := fun s : Int × List Int × List Int × Int => law18_LevelsPlain_L5 s.1 s.2.1 s.2.2.1 s.2.2.2) m (fun k => (n, tab k la, tab k lh, (k : Int))) (r := (tab m la, tab m lh)) rfl (fun k hk => ?_) ?_) (Post.bnd hx (Post.bnd hy (Post.bnd hz (Post.altL (b := (none, none, none)) (count (L := fun s : List Int × Tx × Option (Int × ByteArray × Int) × Tx × Option (Int × ByteArray × Int) × Tx × Option (Int × ByteArray × Int) × Int => law18_LevelsPlain_L13 s.1 s.2.1 s.2.2.1 s.2.2.2.1 s.2.2.2.2.1 s.2.2.2.2.2.1 s.2.2.2.2.2.2.1 s.2.2.2.2.2.2.2) m (fun k => (tab m la, x, none, y, none, z, none, (k : Int))) rfl (fun k hk => ?_) ?_) (Post.brT rfl (Post.brT rfl (Post.pure rfl))))))))))
  · dsimp only
    unfold law18_LevelsPlain_L5
    rw [e]
    refine Post.brT (by rw [decide_eq_true_eq]; omega) (Post.bnd (app_eq (by rw [tab_len]; simp; omega)) (Post.bnd (app_eq (by rw [tab_len]; simp; omega)) (Post.pure ?_)))
    rw [(wr k (by omega)).1, (wr k (by omega)).2, wrap_succ (by omega), ← tab_succ, ← tab_succ]
  · dsimp only
    unfold law18_LevelsPlain_L5
    rw [e]
    exact Post.brF (by rw [decide_eq_false_iff_not]; omega) (Post.pure rfl)
  · dsimp only
    unfold law18_LevelsPlain_L13
    have h0 : 0 < m := by omega
    have ex := vx h0
    have ey := vy h0
    have ez := vz h0
    have gx : ∀ v : Int, (List.replicate m v).getD k 0 = v := fun v => by simp [List.getD, hk]
    refine Post.brT (by rw [decide_eq_true_eq, tab_len]; omega) (Nu.post_box (Post.brF (by rw [ex, tab_len]; simp) (Nu.post_box (Post.brF (by rw [ey, tab_len]; simp) (Nu.post_box (Post.brF (by rw [ez, tab_len]; simp) (Nu.post_box ?_)))))))
    rw [ex]
    refine Post.idx 0 k rfl (by simpa using hk) ?_
    rw [gx]
    refine Post.brF (by decide) (Nu.post_box ?_)
    rw [ey]
    refine Post.idx 0 k rfl (by simpa using hk) ?_
    rw [gx]
    refine Post.brF (by decide) (Nu.post_box ?_)
    rw [ez]
    refine Post.idx 0 k rfl (by simpa using hk) ?_
    rw [gx]
    refine Post.brF (by decide) (Post.pure ?_)
    rw [wrap_succ (by omega)]
  · dsimp only
    unfold law18_LevelsPlain_L13
    exact Post.brF (by rw [decide_eq_false_iff_not, tab_len]; omega) (Post.pure rfl)
theorem levelsPlain_all (x : Tys.I [.int .u8]) (h : WfAll [.int .u8] x) : law18_LevelsPlain_F x.1 = some true := levelsPlain_F _ (wf_u8 h.1)

end Go.Proofs.YtenbhmjcoljddaaDoor
