/-
  What lies ahead of a bracket, as the program and as the reference looks at it.
-/
import Derived.Test.YtaahkcepdgmagaaDoorLawNeuG
namespace Go.Proofs.YtaahkcepdgmagaaDoor
set_option linter.all false

theorem pd_congr {f g : Nat → Int} {sos : Int} : ∀ k, (∀ i, i < k → f i = g i) → pd f sos k = pd g sos k
  | 0, _ => rfl
  | k + 1, h => by
    unfold pd
    rw [h k (by omega), pd_congr k fun i hi => h i (by omega)]
theorem before_loop (cs : List Int) (sos : Int) (hn : cs.length ≤ 4194304) : ∀ k : Nat, k ≤ cs.length → ∃ z, loopW (fun s : List Int × Int × Int => (neutral_before_L2 s.1 s.2.1 s.2.2).run) (cs, sos, (k : Int) - 1) = some z ∧ (z = .inl (pd (fn cs) sos k) ∨ z = .inr (pd (fn cs) sos k))
  | 0, _ => ⟨_, loopW_done (Post.run (by
      dsimp only
      unfold neutral_before_L2
      exact Post.brF (decide_eq_false (by omega)) (Post.pure rfl))), .inl rfl⟩
  | k + 1, h => by
    have hk : ((k + 1 : Nat) : Int) - 1 = (k : Int) := by omega
    rw [hk]
    by_cases e : dir (cs.getD k 0) = 13
    · obtain ⟨z, hz, h2⟩ := before_loop cs sos hn k (by omega)
      refine ⟨z, loopW_next (Post.run ?_) hz, ?_⟩
      · dsimp only
        unfold neutral_before_L2
        refine Post.brT (decide_eq_true (by omega)) (Post.idx 0 k rfl (by omega) (Post.bnd (dir_F _) (Post.brF (by simpa using e) (Post.pure ?_))))
        rw [wrap64 (by omega) (by omega)]
      · have : pd (fn cs) sos (k + 1) = pd (fn cs) sos k := by
          have e' : dir (fn cs k) = 13 := e
          rw [pd, if_pos e']
        rw [this]; exact h2
    · refine ⟨_, loopW_done (Post.run ?_), .inr rfl⟩
      dsimp only
      unfold neutral_before_L2
      refine Post.brT (decide_eq_true (by omega)) (Post.idx 0 k rfl (by omega) (Post.bnd (dir_F _) (Post.brT (by simpa using e) (Post.pure ?_))))
      have e' : ¬ dir (fn cs k) = 13 := e
      rw [pd, if_neg e']
theorem before_F (cs : List Int) (sos : Int) (hn : cs.length ≤ 4194304) : neutral_before_F cs sos = some (pd (fn cs) sos cs.length) := by
  obtain ⟨z, hz, rfl | rfl⟩ := before_loop cs sos hn cs.length (Nat.le_refl _)
  · unfold neutral_before_F neutral_before_T
    rw [wrap64 (n := (cs.length : Int) - 1) (by omega) (by omega)]
    exact Post.run (Post.altL hz (Post.pure rfl))
  · unfold neutral_before_F neutral_before_T
    rw [wrap64 (n := (cs.length : Int) - 1) (by omega) (by omega)]
    exact Post.run (Post.altR hz (Post.pure rfl))
theorem before_take (cs : List Int) (sos : Int) {p : Nat} (hp : p ≤ cs.length) (hn : cs.length ≤ 4194304) : neutral_before_F (cs.take p) sos = some (pd (fn cs) sos p) := by
  have hl : (cs.take p).length = p := by rw [List.length_take]; omega
  rw [before_F (cs.take p) sos (by omega), hl]
  congr 1
  exact pd_congr p fun i hi => by simp [fn, List.getD, List.getElem?_take, hi]
theorem other_spec (ps : List (Int × Int)) (first out : List Int) (sos own : Int) (hw : own = 0 ∨ own = 1) {n : Nat} (ho : out.length = n) (hn : n ≤ 4194304) {i a b : Nat} (hi : i < ps.length) (hb : ps[i].2 = (b : Int)) {p : Nat} (ha : ps[i].1 = (p : Int)) (hpn : p < n) (hab : a ≤ b) (hbn : b < n) :
    ∃ to, loopW (fun s : List (List Int) × List Int × Int × List Int × Int × Int × Int × Int => (ref14_Brackets_L14 s.1 s.2.1 s.2.2.1 s.2.2.2.1 s.2.2.2.2.1 s.2.2.2.2.2.1 s.2.2.2.2.2.2.1 s.2.2.2.2.2.2.2).run) (ps.map two', first, sos, out, own, (i : Int), -1, (a : Int)) = some (ps.map two', first, sos, out, own, (i : Int), to) ∧
      ((to = pd (fn out) sos p ∧ ∃ j, a ≤ j ∧ j < b ∧ sid (out.getD j 0) = 1 - own) ∨ (to = -1 ∧ ∀ j, a ≤ j → j < b → sid (out.getD j 0) ≠ 1 - own)) := by
  have hp : idx (ps.map two') (i : Int) = some (two' ps[i]) := by rw [idx_get (k := i) rfl (by rw [List.length_map]; exact hi), List.getElem_map]
  have hp1 : idx (two' ps[i]) 1 = some (b : Int) := by rw [← hb]; rfl
  have hp0 : idx (two' ps[i]) 0 = some (p : Int) := by rw [← ha]; rfl
  have hwr : IntKind.i64.wrap (1 - own) = 1 - own := wrap64 (by omega) (by omega)
  obtain ⟨z, hz, to, rfl, h⟩ := loop_ex (L := fun s : List (List Int) × List Int × Int × List Int × Int × Int × Int × Int => ref14_Brackets_L14 s.1 s.2.1 s.2.2.1 s.2.2.2.1 s.2.2.2.2.1 s.2.2.2.2.2.1 s.2.2.2.2.2.2.1 s.2.2.2.2.2.2.2)
    (I := fun s => ∃ (to : Int) (k : Nat), a ≤ k ∧ k ≤ b ∧ ((to = pd (fn out) sos p ∧ ∃ j, a ≤ j ∧ j < k ∧ sid (out.getD j 0) = 1 - own) ∨ (to = -1 ∧ ∀ j, a ≤ j → j < k → sid (out.getD j 0) ≠ 1 - own)) ∧ s = (ps.map two', first, sos, out, own, (i : Int), to, (k : Int))) (m := fun s => b - s.2.2.2.2.2.2.2.toNat)
    (R := fun z => ∃ to, z = (ps.map two', first, sos, out, own, (i : Int), to) ∧ ((to = pd (fn out) sos p ∧ ∃ j, a ≤ j ∧ j < b ∧ sid (out.getD j 0) = 1 - own) ∨ (to = -1 ∧ ∀ j, a ≤ j → j < b → sid (out.getD j 0) ≠ 1 - own))) (s0 := (ps.map two', first, sos, out, own, (i : Int), -1, (a : Int)))
    (by
      rintro s ⟨to, k, hak, hkb, hI, rfl⟩
      dsimp only
      unfold ref14_Brackets_L14
      refine Post.bnd hp (Post.bnd hp1 (Post.br (fun c => ?_) (fun c => Post.pure ?_)))
      · have c := of_decide_eq_true c
        rw [wrap_succ (by omega), hwr]
        refine Post.idx 0 k rfl (by omega) (Post.bnd (side_F _) (Post.br (fun c1 => Post.bnd hp (Post.bnd hp0 (Post.bnd (context_F out p sos (by omega) (by omega)) (Post.pure ?_)))) (fun c1 => Post.pure ?_)))
        · have c1 : sid (out.getD k 0) = 1 - own := by simpa using c1
          exact ⟨⟨_, k + 1, by omega, by omega, .inl ⟨rfl, k, hak, by omega, c1⟩, rfl⟩, by dsimp only; omega⟩
        · have c1 : sid (out.getD k 0) ≠ 1 - own := by simpa using c1
          refine ⟨⟨_, k + 1, by omega, by omega, ?_, rfl⟩, by dsimp only; omega⟩
          rcases hI with ⟨x, j, j1, j2, j3⟩ | ⟨x, y⟩
          · exact .inl ⟨x, j, j1, by omega, j3⟩
          · refine .inr ⟨x, fun j j1 j2 => ?_⟩
            rcases Nat.lt_or_ge j k with h | h
            · exact y j j1 h
            · rw [show j = k by omega]; exact c1
      · have c := of_decide_eq_false c
        have : k = b := by omega
        subst this
        exact ⟨to, rfl, hI⟩)
    ⟨-1, a, Nat.le_refl _, hab, .inr ⟨rfl, fun j j1 j2 => by omega⟩, rfl⟩
  exact ⟨to, hz, h⟩

end Go.Proofs.YtaahkcepdgmagaaDoor
