/-
  The laws of paragraphs return true: where they end; how many there are.
-/
import Derived.Test.YtfljkcfahhkfbaaLawPara
namespace Go.Proofs.Ytfljkcfahhkfbaa

theorem paraSplits_true (rs ns : List Int) (hn : ns.length ≤ 2097152) (h8 : ∀ n ∈ ns, 0 ≤ n ∧ n ≤ 255) : law08_ParaSplits_F rs ns = some true := by
  obtain ⟨cs, hc, hlen, _, _⟩ := classes_F ns hn h8
  obtain ⟨ps, hps, hpar⟩ := split_F rs cs (by omega)
  unfold law08_ParaSplits_F law08_ParaSplits_T
  rw [Tr.run_bnd_some awake08, Tr.run_br, if_neg (by simp), Tr.run_bnd_some hc, Tr.run_bnd_some hps]
  generalize hN : min rs.length cs.length = n at hpar
  have hmin : (if (cs.length : Int) < (rs.length : Int) then (cs.length : Int) else (rs.length : Int)) = (n : Int) := by split <;> omega
  rw [hmin]
  have hpl := hpar.len
  refine Exists.elim (loopW_rule (f := fun s : List Int × List Int × Int × Int × List (Int × Int × Int) × Int × Int => (law08_ParaSplits_L7 s.1 s.2.1 s.2.2.1 s.2.2.2.1 s.2.2.2.2.1 s.2.2.2.2.2.1 s.2.2.2.2.2.2).run)
    (fun s => ∃ (j a : Nat), j ≤ ps.length ∧ a ≤ n ∧ s = (rs, cs, (n : Int), (a : Int), ps, (ps.length : Int), (j : Int)) ∧ Paras (fun i => rs.getD i 0) (fun i => cs.getD i 0) n a (ps.drop j) n)
    (fun s => ps.length - s.2.2.2.2.2.2.toNat)
    (fun x => x = .inl ((n : Int), (n : Int))) ?_ (rs, cs, (n : Int), 0, ps, (ps.length : Int), 0) ⟨0, 0, by omega, by omega, rfl, hpar⟩) (fun x hx => ?_)
  · rintro s ⟨j, a, hj, ha, rfl, hp⟩
    dsimp only
    unfold law08_ParaSplits_L7
    rw [Tr.run_br]
    by_cases e : j = ps.length
    · right
      subst e
      rw [if_neg (by simp), Tr.run_pure]
      rw [List.drop_length] at hp
      have hp : a = n := hp
      subst hp
      exact ⟨_, rfl, rfl⟩
    · left
      have hj' : j < ps.length := by omega
      rw [List.drop_eq_getElem_cons hj'] at hp
      rw [if_pos (by simp; omega), Tr.run_bnd_some (idx_get rfl hj')]
      generalize ps[j] = p at hp
      obtain ⟨h0, hnx, hrest⟩ := hp
      obtain ⟨b, hb1, hb2, hb3, hb4⟩ := hnx.to_ h0
      obtain ⟨p1, p2, p3⟩ := p
      dsimp only at hb1 hb4 hrest
      subst hb1
      subst hb4
      have i0 : idx [((a : Int), (b : Int), p3)] 0 = some ((a : Int), (b : Int), p3) := idx_get (k := 0) rfl (by simp)
      have hpart : 0 ≤ p3 ∧ p3 ≤ 2 ∧ p3 ≤ (b : Int) := by
        rcases hnx with ⟨i, h1, h2, _, _, ⟨_, h3, _, he⟩ | ⟨_, he⟩⟩ | ⟨_, he⟩ <;> simp only [Prod.mk.injEq] at he <;> omega
      have hin : loopW (fun s : List Int × List Int × Int × (Int × Int × Int) × Int × (List (Int × Int × Int)) × Int × Int => (law08_ParaSplits_L12 s.1 s.2.1 s.2.2.1 s.2.2.2.1 s.2.2.2.2.1 s.2.2.2.2.2.1 s.2.2.2.2.2.2.1 s.2.2.2.2.2.2.2).run)
          (rs, cs, (n : Int), ((a : Int), (b : Int), p3), (a : Int), ps, (ps.length : Int), (j : Int)) = some (.inl (rs, cs, (n : Int), ((a : Int), (b : Int), p3), ps, (ps.length : Int), (j : Int))) := by
        have hl := loopW_count (f := fun s : List Int × List Int × Int × (Int × Int × Int) × Int × (List (Int × Int × Int)) × Int × Int => (law08_ParaSplits_L12 s.1 s.2.1 s.2.2.1 s.2.2.2.1 s.2.2.2.2.1 s.2.2.2.2.2.1 s.2.2.2.2.2.2.1 s.2.2.2.2.2.2.2).run) (b - a)
          (fun k => (rs, cs, (n : Int), ((a : Int), (b : Int), p3), ((a + k : Nat) : Int), ps, (ps.length : Int), (j : Int))) (r := .inl (rs, cs, (n : Int), ((a : Int), (b : Int), p3), ps, (ps.length : Int), (j : Int))) ?_ ?_
        · exact hl
        · intro k hk
          dsimp only
          unfold law08_ParaSplits_L12
          rw [Tr.run_bnd_some i0, Tr.run_br, if_pos (by simp only [decide_eq_true_eq]; omega), Tr.run_bnd_some i0, Tr.run_bnd_some i0, Tr.run_bnd_some (idx_getD 0 (k := a + k) rfl (by omega)), Tr.run_br]
          dsimp only
          rw [wrap64 (n := (b : Int) - p3) (by omega) (by omega), wrap64 (n := ((a + k : Nat) : Int) + 1) (by omega) (by omega)]
          have fin : ∀ q : Prop, (Tr.pure (Lap.next (rs, cs, (n : Int), ((a : Int), (b : Int), p3), ((a + k : Nat) : Int) + 1, ps, (ps.length : Int), (j : Int))) : Tr (Lap (List Int × List Int × Int × (Int × Int × Int) × Int × (List (Int × Int × Int)) × Int × Int) (Sum (List Int × List Int × Int × (Int × Int × Int) × (List (Int × Int × Int)) × Int × Int) Bool))).run =
              some (Lap.next (rs, cs, (n : Int), ((a : Int), (b : Int), p3), ((a + (k + 1) : Nat) : Int), ps, (ps.length : Int), (j : Int))) := fun _ => rfl
          by_cases hkk : ((a + k : Nat) : Int) < (b : Int) - p3
          · have hne : cs.getD (a + k) 0 ≠ 10 := by
              rcases hnx with ⟨i, h1, h2, h3, h4, ⟨_, h5, _, he⟩ | ⟨_, he⟩⟩ | ⟨h3, he⟩
              · simp only [Prod.mk.injEq] at he
                exact h3 _ (by omega) (by omega)
              · simp only [Prod.mk.injEq] at he
                exact h3 _ (by omega) (by omega)
              · exact h3 _ (by omega) (by omega)
            rw [if_neg (by rw [decide_eq_true hkk]; simpa using hne)]
            exact fin True
          · by_cases h10 : cs.getD (a + k) 0 = 10
            · rw [if_neg (by rw [decide_eq_false hkk, h10]; simp)]
              exact fin True
            · have h2 : p3 = 2 ∧ ((a + k : Nat) : Int) = (b : Int) - 1 := by
                rcases hnx with ⟨i, h1, h2, h3, h4, ⟨_, h5, _, he⟩ | ⟨_, he⟩⟩ | ⟨h3, he⟩
                · simp only [Prod.mk.injEq] at he
                  have : ¬ a + k = i := fun e => h10 (by rw [e]; exact h4)
                  omega
                · simp only [Prod.mk.injEq] at he
                  have : ¬ a + k = i := fun e => h10 (by rw [e]; exact h4)
                  omega
                · simp only [Prod.mk.injEq] at he
                  omega
              rw [if_pos (by rw [decide_eq_false hkk]; simpa using h10), Tr.run_bnd_some i0, Tr.run_br, if_pos (by simpa using h2.1), Tr.run_bnd_some i0]
              dsimp only
              rw [wrap64 (n := (b : Int) - 1) (by omega) (by omega), Tr.run_br, if_neg (by rw [h2.2]; simp)]
              exact fin True
        · dsimp only
          rw [show a + (b - a) = b by omega]
          unfold law08_ParaSplits_L12
          rw [Tr.run_bnd_some i0, Tr.run_br, if_neg (by simp), Tr.run_pure]
      have done : ∀ m : Tr (Lap (List Int × List Int × Int × Int × List (Int × Int × Int) × Int × Int) (Sum (Int × Int) Bool)), m = (Tr.bnd (idx [((a : Int), (b : Int), p3)] 0) fun x => Tr.pure (Lap.next (rs, cs, (n : Int), x.2.1, ps, (ps.length : Int), IntKind.i64.wrap ((j : Int) + 1)))) →
          ∃ s', m.run = some (.next s') ∧ (∃ (j a : Nat), j ≤ ps.length ∧ a ≤ n ∧ s' = (rs, cs, (n : Int), (a : Int), ps, (ps.length : Int), (j : Int)) ∧ Paras (fun i => rs.getD i 0) (fun i => cs.getD i 0) n a (ps.drop j) n) ∧
            ps.length - s'.2.2.2.2.2.2.toNat < ps.length - (j : Int).toNat := by
        rintro m rfl
        rw [Tr.run_bnd_some i0, Tr.run_pure, wrap64 (by omega) (by omega)]
        refine ⟨_, rfl, ⟨j + 1, b, by omega, hb3, rfl, hrest⟩, ?_⟩
        dsimp only
        omega
      rw [Tr.run_bnd_some i0, Tr.run_br, if_neg (by simp), Tr.run_bnd_some i0, Tr.run_br, if_neg (by simp only [decide_eq_true_eq]; omega), Tr.run_bnd_some i0, Tr.run_br, if_neg (by simp only [decide_eq_true_eq]; omega),
        Tr.run_bnd_some i0, Tr.run_br, if_neg (by simp only [decide_eq_true_eq]; omega), Tr.run_bnd_some i0, Tr.run_br, if_neg (by simp only [decide_eq_true_eq]; omega), Tr.run_bnd_some i0, Tr.run_alt_inl hin]
      dsimp only
      rw [Tr.run_bnd_some i0, Tr.run_br]
      rcases hnx with ⟨i, h1, h2, h3, h4, ⟨g1, g2, g3, he⟩ | ⟨g1, he⟩⟩ | ⟨h3, he⟩
      · simp only [Prod.mk.injEq] at he
        obtain ⟨_, e2, rfl⟩ := he
        have eb : b = i + 2 := by omega
        subst eb
        have r0 : idx rs (((i + 2 : Nat) : Int) - 2) = some 13 := by rw [idx_getD 0 (k := i) (by omega) (by omega)]; exact congrArg some g1
        have r1 : idx rs (((i + 2 : Nat) : Int) - 1) = some 10 := by rw [idx_getD 0 (k := i + 1) (by omega) (by omega)]; exact congrArg some g3
        rw [if_neg (by simp), Tr.run_bnd_some i0, Tr.run_br, if_pos (by simp), Tr.run_bnd_some i0]
        dsimp only
        rw [wrap64 (n := ((i + 2 : Nat) : Int) - 2) (by omega) (by omega), Tr.run_bnd_some r0, Tr.run_br, if_neg (by simp), Tr.run_bnd_some i0]
        dsimp only
        rw [wrap64 (n := ((i + 2 : Nat) : Int) - 1) (by omega) (by omega), Tr.run_bnd_some r1, Tr.run_br, if_neg (by simp), Tr.run_bnd_some i0, Tr.run_br, if_neg (by simp)]
        exact done _ rfl
      · simp only [Prod.mk.injEq] at he
        obtain ⟨_, e2, rfl⟩ := he
        have eb : b = i + 1 := by omega
        subst eb
        have r0 : idx rs (((i + 1 : Nat) : Int) - 1) = some (rs.getD i 0) := idx_getD 0 (k := i) (by omega) (by omega)
        rw [if_neg (by simp), Tr.run_bnd_some i0, Tr.run_br, if_neg (by simp), Tr.run_bnd_some i0, Tr.run_br, if_pos (by simp), Tr.run_bnd_some i0]
        dsimp only
        rw [wrap64 (n := ((i + 1 : Nat) : Int) - 1) (by omega) (by omega), Tr.run_bnd_some r0, Tr.run_br]
        by_cases h13 : rs.getD i 0 = 13
        · rw [if_pos (by simpa using h13), Tr.run_bnd_some i0, Tr.run_br]
          dsimp only
          by_cases hlt : i + 1 < n
          · rw [if_pos (by simp only [decide_eq_true_eq]; omega), Tr.run_bnd_some i0]
            dsimp only
            rw [Tr.run_bnd_some (idx_getD 0 (k := i + 1) rfl (by omega)), Tr.run_br, if_neg (by simp only [beq_iff_eq]; exact fun h => g1 ⟨h13, hlt, h⟩)]
            exact done _ rfl
          · rw [if_neg (by simp only [decide_eq_true_eq]; omega)]
            exact done _ rfl
        · rw [if_neg (by simpa using h13)]
          exact done _ rfl
      · simp only [Prod.mk.injEq] at he
        obtain ⟨_, e2, rfl⟩ := he
        have eb : b = n := by omega
        subst eb
        rw [if_pos (by simp), Tr.run_bnd_some i0, Tr.run_br, if_neg (by simp), Tr.run_bnd_some i0, Tr.run_br, if_neg (by simp), Tr.run_bnd_some i0, Tr.run_br, if_neg (by simp)]
        exact done _ rfl
  · obtain ⟨hl, rfl⟩ := hx
    rw [Tr.run_alt_inl hl, Tr.run_pure]
    simp

theorem paraSplits_all (x : Tys.I [.sl (.int .i32), .sl (.int .u8)]) (h : WfAll [.sl (.int .i32), .sl (.int .u8)] x) (hb : bulkAll [.sl (.int .i32), .sl (.int .u8)] x ≤ 1048576) : law08_ParaSplits_F x.1 x.2.1 = some true := by
  simp only [bulkAll, bulk] at hb
  exact paraSplits_true _ _ (by omega) (fun n hn => wf_u8 (h.2.1.2 n hn))

end Go.Proofs.Ytfljkcfahhkfbaa
