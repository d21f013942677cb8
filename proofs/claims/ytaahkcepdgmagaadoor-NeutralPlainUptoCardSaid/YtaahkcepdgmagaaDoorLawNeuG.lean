/-
  What lies between two brackets, as the program and as the reference looks at it.
-/
import Derived.Test.YtaahkcepdgmagaaDoorLawNeuF
namespace Go.Proofs.YtaahkcepdgmagaaDoor
set_option linter.all false

theorem inside_spec (cs : List Int) (e : Int) (he : e = 0 ∨ e = 1) (hn : cs.length ≤ 4194304) : ∃ v, neutral_inside_F cs e = some v ∧
    ((v = e ∧ ∃ j, j < cs.length ∧ dir (cs.getD j 0) = e) ∨ (v = 13 ∧ ∀ j, j < cs.length → dir (cs.getD j 0) = 13) ∨ (v ≠ e ∧ v ≠ 13 ∧ (∀ j, j < cs.length → dir (cs.getD j 0) ≠ e) ∧ ∃ j, j < cs.length ∧ dir (cs.getD j 0) = v)) := by
  unfold neutral_inside_F neutral_inside_T
  obtain ⟨z, hz, h⟩ := loop_ex (L := fun s : Int × Int × List Int × Int × Int => neutral_inside_L3 s.1 s.2.1 s.2.2.1 s.2.2.2.1 s.2.2.2.2)
    (I := fun s => ∃ (f : Int) (k : Nat), k ≤ cs.length ∧ (∀ j, j < k → dir (cs.getD j 0) ≠ e) ∧ ((f = 13 ∧ ∀ j, j < k → dir (cs.getD j 0) = 13) ∨ (f ≠ 13 ∧ ∃ j, j < k ∧ dir (cs.getD j 0) = f)) ∧ s = (e, f, cs, (cs.length : Int), (k : Int))) (m := fun s => cs.length - s.2.2.2.2.toNat)
    (R := fun z => (z = .inr e ∧ ∃ j, j < cs.length ∧ dir (cs.getD j 0) = e) ∨ ∃ f, z = .inl f ∧ (∀ j, j < cs.length → dir (cs.getD j 0) ≠ e) ∧ ((f = 13 ∧ ∀ j, j < cs.length → dir (cs.getD j 0) = 13) ∨ (f ≠ 13 ∧ ∃ j, j < cs.length ∧ dir (cs.getD j 0) = f))) (s0 := (e, 13, cs, (cs.length : Int), 0))
    (by
      rintro s ⟨f, k, hk, hne, hf, rfl⟩
      dsimp only
      unfold neutral_inside_L3
      refine Post.br (fun c => ?_) (fun c => Post.pure ?_)
      · have c := of_decide_eq_true c
        rw [wrap_succ (by omega)]
        refine Post.idx 0 k rfl (by omega) (Post.bnd (dir_F _) (Post.br (fun c1 => Post.pure ?_) (fun c1 => Post.br (fun c2 => Post.pure ?_) (fun c2 => Post.pure ?_))))
        · have c1 : dir (cs.getD k 0) = e := by simpa using c1
          exact .inl ⟨by rw [c1], k, by omega, c1⟩
        · have c1 : dir (cs.getD k 0) ≠ e := by simpa using c1
          have c2 : dir (cs.getD k 0) ≠ 13 := by simpa using c2
          refine ⟨⟨_, k + 1, by omega, fun j hj => ?_, .inr ⟨c2, k, by omega, rfl⟩, rfl⟩, by dsimp only; omega⟩
          rcases Nat.lt_or_ge j k with h | h
          · exact hne j h
          · rw [show j = k by omega]; exact c1
        · have c1 : dir (cs.getD k 0) ≠ e := by simpa using c1
          have c2 : dir (cs.getD k 0) = 13 := by simpa using c2
          refine ⟨⟨_, k + 1, by omega, fun j hj => ?_, ?_, rfl⟩, by dsimp only; omega⟩
          · rcases Nat.lt_or_ge j k with h | h
            · exact hne j h
            · rw [show j = k by omega]; exact c1
          · rcases hf with ⟨a, b⟩ | ⟨a, j, hj, b⟩
            · refine .inl ⟨a, fun j hj => ?_⟩
              rcases Nat.lt_or_ge j k with h | h
              · exact b j h
              · rw [show j = k by omega]; exact c2
            · exact .inr ⟨a, j, by omega, b⟩
      · have c := of_decide_eq_false c
        have : k = cs.length := by omega
        subst this
        exact .inr ⟨f, rfl, hne, hf⟩)
    ⟨13, 0, by omega, fun j hj => by omega, .inl ⟨rfl, fun j hj => by omega⟩, rfl⟩
  rcases h with ⟨rfl, h⟩ | ⟨f, rfl, h1, h2⟩
  · exact ⟨e, Post.run (Post.altR hz (Post.pure rfl)), .inl ⟨rfl, h⟩⟩
  · refine ⟨f, Post.run (Post.altL hz (Post.pure rfl)), ?_⟩
    rcases h2 with ⟨a, b⟩ | ⟨a, j, hj, b⟩
    · exact .inr (.inl ⟨a, b⟩)
    · exact .inr (.inr ⟨fun hfe => h1 j hj (by rw [b, hfe]), a, h1, j, hj, b⟩)
theorem own_spec (ps : List (Int × Int)) (first out : List Int) (sos own : Int) {n : Nat} (ho : out.length = n) (hn : n ≤ 4194304) {i a b : Nat} (hi : i < ps.length) (hb : ps[i].2 = (b : Int)) (hab : a ≤ b) (hbn : b < n) :
    ∃ to, loopW (fun s : List (List Int) × List Int × Int × List Int × Int × Int × Int × Int => (ref14_Brackets_L8 s.1 s.2.1 s.2.2.1 s.2.2.2.1 s.2.2.2.2.1 s.2.2.2.2.2.1 s.2.2.2.2.2.2.1 s.2.2.2.2.2.2.2).run) (ps.map two', first, sos, out, own, (i : Int), -1, (a : Int)) = some (ps.map two', first, sos, out, own, (i : Int), to) ∧
      ((to = own ∧ ∃ j, a ≤ j ∧ j < b ∧ sid (out.getD j 0) = own) ∨ (to = -1 ∧ ∀ j, a ≤ j → j < b → sid (out.getD j 0) ≠ own)) := by
  have hp : idx (ps.map two') (i : Int) = some (two' ps[i]) := by rw [idx_get (k := i) rfl (by rw [List.length_map]; exact hi), List.getElem_map]
  have hp1 : idx (two' ps[i]) 1 = some (b : Int) := by rw [← hb]; rfl
  obtain ⟨z, hz, to, rfl, h⟩ := loop_ex (L := fun s : List (List Int) × List Int × Int × List Int × Int × Int × Int × Int => ref14_Brackets_L8 s.1 s.2.1 s.2.2.1 s.2.2.2.1 s.2.2.2.2.1 s.2.2.2.2.2.1 s.2.2.2.2.2.2.1 s.2.2.2.2.2.2.2)
    (I := fun s => ∃ (to : Int) (k : Nat), a ≤ k ∧ k ≤ b ∧ ((to = own ∧ ∃ j, a ≤ j ∧ j < k ∧ sid (out.getD j 0) = own) ∨ (to = -1 ∧ ∀ j, a ≤ j → j < k → sid (out.getD j 0) ≠ own)) ∧ s = (ps.map two', first, sos, out, own, (i : Int), to, (k : Int))) (m := fun s => b - s.2.2.2.2.2.2.2.toNat)
    (R := fun z => ∃ to, z = (ps.map two', first, sos, out, own, (i : Int), to) ∧ ((to = own ∧ ∃ j, a ≤ j ∧ j < b ∧ sid (out.getD j 0) = own) ∨ (to = -1 ∧ ∀ j, a ≤ j → j < b → sid (out.getD j 0) ≠ own))) (s0 := (ps.map two', first, sos, out, own, (i : Int), -1, (a : Int)))
    (by
      rintro s ⟨to, k, hak, hkb, hI, rfl⟩
      dsimp only
      unfold ref14_Brackets_L8
      refine Post.bnd hp (Post.bnd hp1 (Post.br (fun c => ?_) (fun c => Post.pure ?_)))
      · have c := of_decide_eq_true c
        rw [wrap_succ (by omega)]
        refine Post.idx 0 k rfl (by omega) (Post.bnd (side_F _) (Post.br (fun c1 => Post.pure ?_) (fun c1 => Post.pure ?_)))
        · have c1 : sid (out.getD k 0) = own := by simpa using c1
          exact ⟨⟨_, k + 1, by omega, by omega, .inl ⟨rfl, k, hak, by omega, c1⟩, rfl⟩, by dsimp only; omega⟩
        · have c1 : sid (out.getD k 0) ≠ own := by simpa using c1
          refine ⟨⟨_, k + 1, by omega, by omega, ?_, rfl⟩, by dsimp only; omega⟩
          rcases hI with ⟨x, j, j1, j2, j3⟩ | ⟨x, y⟩
          · exact .inl ⟨x, j, j1, by omega, j3⟩
          · refine .inr ⟨x, fun j j1 j2 => ?_⟩
            rcases Nat.lt_or_ge j k with h | h
            · exact y j j1 h
            · rw [show j = k by omega]; exact c1
      · have c := of_decide_eq_false c
        have : k = b := by omega
        subst this
        exact ⟨to, rfl, hI⟩)
    ⟨-1, a, Nat.le_refl _, hab, .inr ⟨rfl, fun j j1 j2 => by omega⟩, rfl⟩
  exact ⟨to, hz, h⟩

end Go.Proofs.YtaahkcepdgmagaaDoor
