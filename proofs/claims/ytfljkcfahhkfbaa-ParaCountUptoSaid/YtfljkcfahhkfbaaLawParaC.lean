/-
  The laws of paragraphs return true: how many there are.
-/
import Derived.Test.YtfljkcfahhkfbaaLawPara
namespace Go.Proofs.Ytfljkcfahhkfbaa

def rv (ns : List Int) (i : Nat) : Int := if (ns.getD i 0) % 3 = 0 then 13 else if (ns.getD i 0) % 3 = 1 then 97 else 10
def cv (ns : List Int) (i : Nat) : Int := if rv ns i = 97 then 0 else 10
theorem rv_cases (ns : List Int) (i : Nat) : rv ns i = 13 ∨ rv ns i = 97 ∨ rv ns i = 10 := by
  unfold rv
  split
  · exact .inl rfl
  · split
    · exact .inr (.inl rfl)
    · exact .inr (.inr rfl)
/-- separators that count -/
def hit (ns : List Int) (k : Nat) : Prop := cv ns k = 10 ∧ ¬ (0 < k ∧ rv ns k = 10 ∧ rv ns (k - 1) = 13)
instance (ns : List Int) (k : Nat) : Decidable (hit ns k) := by unfold hit; exact inferInstance
def want (ns : List Int) : Nat → Nat
  | 0 => 0
  | k + 1 => want ns k + (if hit ns k then 1 else 0)
theorem want_le (ns : List Int) : ∀ k, want ns k ≤ k
  | 0 => by simp [want]
  | k + 1 => by
    have := want_le ns k
    unfold want
    split <;> omega
theorem want_same (ns : List Int) {a : Nat} : ∀ {b : Nat}, a ≤ b → (∀ k, a ≤ k → k < b → ¬ hit ns k) → want ns b = want ns a
  | 0, h, _ => by rw [show a = 0 by omega]
  | b + 1, h, hn => by
    by_cases e : a = b + 1
    · rw [e]
    · have := want_same ns (a := a) (b := b) (by omega) fun k h1 h2 => hn k h1 (by omega)
      rw [want, if_neg (hn b (by omega) (by omega)), this, Nat.add_zero]

/-- where a paragraph may begin -/
def StartOk (ns : List Int) (n a : Nat) : Prop := 0 < a → a < n → ¬ (rv ns a = 10 ∧ rv ns (a - 1) = 13)
theorem step_count (ns : List Int) {n a : Nat} {p : Int × Int × Int} (h : Next (rv ns) (cv ns) n a p) (ha : a < n) (hs : StartOk ns n a) :
    ∃ b : Nat, p.2.1 = (b : Int) ∧ a < b ∧ b ≤ n ∧ StartOk ns n b ∧ want ns b = want ns a + (if p.2.2 > 0 then 1 else 0) := by
  rcases h with ⟨i, h1, h2, h3, h4, h5⟩ | ⟨h3, rfl⟩
  · have hi : want ns (i + 1) = want ns a + 1 := by
      have e := want_same ns (a := a) (b := i) h1 fun k k1 k2 hk => h3 k k1 k2 hk.1
      rw [want, if_pos, e]
      refine ⟨h4, fun ⟨g1, g2, g3⟩ => ?_⟩
      by_cases e : i = a
      · subst e
        exact hs g1 h2 ⟨g2, g3⟩
      · have hc := h3 (i - 1) (by omega) (by omega)
        unfold cv at hc
        rw [if_neg (by rw [g3]; decide)] at hc
        exact hc rfl
    rcases h5 with ⟨g1, g2, g3, rfl⟩ | ⟨g1, rfl⟩
    · refine ⟨i + 2, rfl, by omega, by omega, fun _ _ h => ?_, ?_⟩
      · have e : rv ns (i + 2 - 1) = 10 := g3
        rw [e] at h
        exact absurd h.2 (by decide)
      · have : ¬ hit ns (i + 1) := fun h => h.2 ⟨by omega, g3, g1⟩
        rw [want, if_neg this, hi]
        simp
    · refine ⟨i + 1, rfl, by omega, by omega, fun _ hlt h => g1 ⟨h.2, hlt, h.1⟩, ?_⟩
      rw [hi]
      simp
  · refine ⟨n, rfl, ha, by omega, fun _ h => by omega, ?_⟩
    rw [want_same ns (a := a) (b := n) (by omega) fun k k1 k2 hk => h3 k k1 k2 hk.1]
    simp

theorem paraCount_true (ns : List Int) (hn : ns.length ≤ 2097152) (h8 : ∀ n ∈ ns, 0 ≤ n ∧ n ≤ 255) : law08_ParaCount_F ns = some true := by
  unfold law08_ParaCount_F law08_ParaCount_T
  rw [Tr.run_bnd_some awake08, Tr.run_br, if_neg (by simp)]
  have l1 := loopW_count (f := fun s : List Int × List Int × List Int × Int × Int => (law08_ParaCount_L6 s.1 s.2.1 s.2.2.1 s.2.2.2.1 s.2.2.2.2).run) ns.length
    (fun k => (tab k (rv ns), tab k (cv ns), ns, (ns.length : Int), (k : Int))) (r := (tab ns.length (rv ns), tab ns.length (cv ns))) ?_ ?_
  · rw [show ((0 : Nat) : Int) = 0 from rfl, tab_zero, tab_zero] at l1
    rw [Tr.run_bnd_some l1]
    dsimp only
    rw [tab_len]
    have l2 := loopW_count (f := fun s : List Int × List Int × Int × Int × Int => (law08_ParaCount_L21 s.1 s.2.1 s.2.2.1 s.2.2.2.1 s.2.2.2.2).run) ns.length
      (fun k => (tab ns.length (rv ns), tab ns.length (cv ns), ((want ns k : Nat) : Int), (ns.length : Int), (k : Int))) (r := (tab ns.length (rv ns), tab ns.length (cv ns), ((want ns ns.length : Nat) : Int))) ?_ ?_
    · rw [show ((0 : Nat) : Int) = 0 from rfl, show ((want ns 0 : Nat) : Int) = 0 from rfl] at l2
      rw [Tr.run_bnd_some l2]
      obtain ⟨ps, hps, hpar⟩ := split_F (tab ns.length (rv ns)) (tab ns.length (cv ns)) (by rw [tab_len]; omega)
      rw [tab_len, tab_len, Nat.min_self] at hpar
      dsimp only
      rw [Tr.run_bnd_some hps]
      have hpl := hpar.len
      refine Exists.elim (loopW_rule (f := fun s : Int × Int × (List (Int × Int × Int)) × Int × Int => (law08_ParaCount_L28 s.1 s.2.1 s.2.2.1 s.2.2.2.1 s.2.2.2.2).run)
        (fun s => ∃ (j a : Nat), j ≤ ps.length ∧ a ≤ ns.length ∧ s = (((want ns ns.length : Nat) : Int), ((want ns a : Nat) : Int), ps, (ps.length : Int), (j : Int)) ∧
          Paras (fun i => (tab ns.length (rv ns)).getD i 0) (fun i => (tab ns.length (cv ns)).getD i 0) ns.length a (ps.drop j) ns.length ∧ StartOk ns ns.length a)
        (fun s => ps.length - s.2.2.2.2.toNat)
        (fun x => x = (((want ns ns.length : Nat) : Int), ((want ns ns.length : Nat) : Int))) ?_ (((want ns ns.length : Nat) : Int), 0, ps, (ps.length : Int), 0) ⟨0, 0, by omega, by omega, rfl, hpar, fun h => by omega⟩) (fun x hx => ?_)
      · rintro s ⟨j, a, hj, ha, rfl, hp, hs⟩
        dsimp only
        unfold law08_ParaCount_L28
        rw [Tr.run_br]
        by_cases e : j = ps.length
        · right
          subst e
          rw [if_neg (by simp), Tr.run_pure]
          rw [List.drop_length] at hp
          have hp : a = ns.length := hp
          subst hp
          exact ⟨_, rfl, rfl⟩
        · left
          have hj' : j < ps.length := by omega
          rw [List.drop_eq_getElem_cons hj'] at hp
          rw [if_pos (by simp; omega), Tr.run_bnd_some (idx_get rfl hj')]
          generalize ps[j] = p at hp
          obtain ⟨h0, hnx, hrest⟩ := hp
          have hnx := next_congr (r' := rv ns) (c' := cv ns) (fun i hi => by simp [List.getD, tab_get _ hi]) (fun i hi => by simp [List.getD, tab_get _ hi]) hnx
          obtain ⟨b, hb1, hb2, hb3, hb4, hb5⟩ := step_count ns hnx h0 hs
          have i0 : idx [p] 0 = some p := idx_get (k := 0) rfl (by simp)
          have hw := want_le ns a
          rw [hb1] at hrest
          rw [Tr.run_bnd_some i0, Tr.run_br, wrap64 (n := (j : Int) + 1) (by omega) (by omega), wrap64 (n := ((want ns a : Nat) : Int) + 1) (by omega) (by omega)]
          by_cases hpos : p.2.2 > 0
          · rw [if_pos hpos] at hb5
            rw [if_pos (by simpa using hpos), Tr.run_pure]
            refine ⟨_, rfl, ⟨j + 1, b, by omega, hb3, ?_, by simpa using hrest, hb4⟩, by dsimp only; omega⟩
            rw [hb5]
            rfl
          · rw [if_neg hpos] at hb5
            rw [if_neg (by simpa using hpos), Tr.run_pure]
            refine ⟨_, rfl, ⟨j + 1, b, by omega, hb3, ?_, by simpa using hrest, hb4⟩, by dsimp only; omega⟩
            rw [hb5]
            rfl
      · obtain ⟨hl, rfl⟩ := hx
        rw [Tr.run_bnd_some hl, Tr.run_pure]
        simp
    · intro k hk
      dsimp only
      have hw := want_le ns k
      unfold law08_ParaCount_L21
      rw [Tr.run_br, if_pos (by simp; omega), Tr.run_bnd_some (idx_tab rfl hk), Tr.run_br, wrap64 (n := (k : Int) + 1) (by omega) (by omega), wrap64 (n := ((want ns k : Nat) : Int) + 1) (by omega) (by omega), wrap64 (n := (k : Int) - 1) (by omega) (by omega)]
      have yes : hit ns k → (Tr.pure (Lap.next (tab ns.length (rv ns), tab ns.length (cv ns), ((want ns k : Nat) : Int) + 1, (ns.length : Int), (k : Int) + 1)) : Tr (Lap (List Int × List Int × Int × Int × Int) (List Int × List Int × Int))).run =
          some (Lap.next (tab ns.length (rv ns), tab ns.length (cv ns), ((want ns (k + 1) : Nat) : Int), (ns.length : Int), ((k + 1 : Nat) : Int))) := by
        intro h
        rw [want, if_pos h]
        rfl
      have no : ¬ hit ns k → (Tr.pure (Lap.next (tab ns.length (rv ns), tab ns.length (cv ns), ((want ns k : Nat) : Int), (ns.length : Int), (k : Int) + 1)) : Tr (Lap (List Int × List Int × Int × Int × Int) (List Int × List Int × Int))).run =
          some (Lap.next (tab ns.length (rv ns), tab ns.length (cv ns), ((want ns (k + 1) : Nat) : Int), (ns.length : Int), ((k + 1 : Nat) : Int))) := by
        intro h
        rw [want, if_neg h]
        rfl
      by_cases hc : cv ns k = 10
      · rw [if_pos (by simpa using hc), Tr.run_br]
        by_cases h0 : 0 < k
        · rw [if_pos (by simp; omega), Tr.run_bnd_some (idx_tab rfl hk), Tr.run_br]
          by_cases h10 : rv ns k = 10
          · rw [if_pos (by simpa using h10), Tr.run_bnd_some (idx_tab (k := k - 1) (by omega) (by omega)), Tr.run_br]
            by_cases h13 : rv ns (k - 1) = 13
            · rw [if_neg (by simp [h13])]
              exact no fun h => h.2 ⟨h0, h10, h13⟩
            · rw [if_pos (by simpa using h13)]
              exact yes ⟨hc, fun h => h13 h.2.2⟩
          · rw [if_neg (by simpa using h10)]
            exact yes ⟨hc, fun h => h10 h.2.1⟩
        · rw [if_neg (by simp; omega)]
          exact yes ⟨hc, fun h => h0 h.1⟩
      · rw [if_neg (by simpa using hc)]
        exact no fun h => hc h.1
    · dsimp only
      unfold law08_ParaCount_L21
      rw [Tr.run_br, if_neg (by simp), Tr.run_pure]
  · intro k hk
    dsimp only
    have hm := h8 (ns.getD k 0) (by simp [List.getD, hk])
    have ht : (ns.getD k 0).tmod 3 = ns.getD k 0 % 3 := Int.tmod_eq_emod_of_nonneg hm.1
    have ap : ∀ (lim : Nat) (g : Nat → Int) (v : Int), 2097153 ≤ lim → v = g k → app lim (tab k g) [v] = some (tab (k + 1) g) := by
      intro lim g v hl hv
      rw [app_eq (by simp only [tab_len, List.length_cons, List.length_nil]; omega), hv, tab_succ]
    unfold law08_ParaCount_L6
    rw [Tr.run_br, if_pos (by simp; omega), Tr.run_bnd_some (idx_getD 0 rfl hk), Tr.run_br, ht, wrap64 (by omega) (by omega)]
    by_cases e0 : ns.getD k 0 % 3 = 0
    · have hr : rv ns k = 13 := by unfold rv; rw [if_pos e0]
      have hcv : cv ns k = 10 := by unfold cv; rw [hr]; rfl
      rw [if_pos (by simpa using e0), Tr.run_br, if_neg (by rw [e0]; simp), Tr.run_bnd_some (ap _ (rv ns) 13 (by omega) hr.symm), Tr.run_br, if_neg (by simp), Tr.run_bnd_some (ap _ (cv ns) 10 (by omega) hcv.symm), Tr.run_pure]
      rfl
    · rw [if_neg (by simpa using e0), Tr.run_br]
      by_cases e1 : ns.getD k 0 % 3 = 1
      · have hr : rv ns k = 97 := by unfold rv; rw [if_neg e0, if_pos e1]
        have hcv : cv ns k = 0 := by unfold cv; rw [hr]; rfl
        rw [if_pos (by simpa using e1), Tr.run_bnd_some (ap _ (rv ns) 97 (by omega) hr.symm), Tr.run_br, if_pos (by simp), Tr.run_bnd_some (ap _ (cv ns) 0 (by omega) hcv.symm), Tr.run_pure]
        rfl
      · have hr : rv ns k = 10 := by unfold rv; rw [if_neg e0, if_neg e1]
        have hcv : cv ns k = 10 := by unfold cv; rw [hr]; rfl
        rw [if_neg (by simpa using e1), Tr.run_bnd_some (ap _ (rv ns) 10 (by omega) hr.symm), Tr.run_br, if_neg (by simp), Tr.run_bnd_some (ap _ (cv ns) 10 (by omega) hcv.symm), Tr.run_pure]
        rfl
  · dsimp only
    unfold law08_ParaCount_L6
    rw [Tr.run_br, if_neg (by simp), Tr.run_pure]

theorem paraCount_all (x : Tys.I [.sl (.int .u8)]) (h : WfAll [.sl (.int .u8)] x) (hb : bulkAll [.sl (.int .u8)] x ≤ 1048576) : law08_ParaCount_F x.1 = some true := by
  simp only [bulkAll, bulk] at hb
  exact paraCount_true _ (by omega) (fun n hn => wf_u8 (h.1.2 n hn))

end Go.Proofs.Ytfljkcfahhkfbaa
