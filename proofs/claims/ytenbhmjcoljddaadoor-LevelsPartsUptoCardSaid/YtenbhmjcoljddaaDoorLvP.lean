/-
  Parts of elder texts, cut out for the levels.
-/
import Derived.Test.YtenbhmjcoljddaaDoorSh
import Derived.Test.YtenbhmjcoljddaaDoorEvMath
namespace Go.Proofs.YtenbhmjcoljddaaDoor.Pa
set_option linter.all false
def Next (r c : Nat → Int) (n a : Nat) (p : Int × Int × Int) : Prop :=
  (∃ i : Nat, a ≤ i ∧ i < n ∧ (∀ k, a ≤ k → k < i → c k ≠ 10) ∧ c i = 10 ∧
    ((r i = 13 ∧ i + 1 < n ∧ r (i + 1) = 10 ∧ p = ((a : Int), ((i + 2 : Nat) : Int), 2)) ∨ (¬ (r i = 13 ∧ i + 1 < n ∧ r (i + 1) = 10) ∧ p = ((a : Int), ((i + 1 : Nat) : Int), 1)))) ∨
  ((∀ k, a ≤ k → k < n → c k ≠ 10) ∧ p = ((a : Int), (n : Int), 0))
theorem Next.to_ {r c : Nat → Int} {n a : Nat} {p : Int × Int × Int} (h : Next r c n a p) (ha : a < n) : ∃ b : Nat, p.2.1 = (b : Int) ∧ a < b ∧ b ≤ n ∧ p.1 = (a : Int) := by
  rcases h with ⟨i, h1, h2, _, _, ⟨_, h3, _, rfl⟩ | ⟨_, rfl⟩⟩ | ⟨_, rfl⟩
  · exact ⟨i + 2, rfl, by omega, by omega, rfl⟩
  · exact ⟨i + 1, rfl, by omega, by omega, rfl⟩
  · exact ⟨n, rfl, ha, by omega, rfl⟩
def Paras (r c : Nat → Int) (n : Nat) : Nat → List (Int × Int × Int) → Nat → Prop
  | a, [], b => a = b
  | a, p :: l, b => a < n ∧ Next r c n a p ∧ Paras r c n p.2.1.toNat l b
theorem Paras.snoc {r c : Nat → Int} {n : Nat} {p : Int × Int × Int} : ∀ {l : List (Int × Int × Int)} {a b : Nat}, Paras r c n a l b → b < n → Next r c n b p → Paras r c n a (l ++ [p]) p.2.1.toNat
  | [], a, b, h, hb, hp => by
    have h : a = b := h
    subst h
    exact ⟨hb, hp, rfl⟩
  | q :: l, a, b, h, hb, hp => ⟨h.1, h.2.1, h.2.2.snoc hb hp⟩
theorem Paras.len {r c : Nat → Int} {n : Nat} : ∀ {l : List (Int × Int × Int)} {a b : Nat}, Paras r c n a l b → a + l.length ≤ b
  | [], a, b, h => by
    have h : a = b := h
    simp [h]
  | q :: l, a, b, h => by
    obtain ⟨d, h1, h2, _, _⟩ := h.2.1.to_ h.1
    have := h.2.2.len
    rw [h1] at this
    simp only [List.length_cons]
    simp at this
    omega
theorem next_F (rs cs : List Int) (a : Nat) (ha : a ≤ rs.length) (hl : rs.length ≤ cs.length) (hn : cs.length ≤ 4194304) :
    ∃ p, para_next_F rs cs (a : Int) = some p ∧ Next (fun i => rs.getD i 0) (fun i => cs.getD i 0) rs.length a p := by
  unfold para_next_F para_next_T
  refine Exists.elim (loopW_rule (f := fun s : List Int × List Int × Int × (Int × Int × Int) × Int => (para_next_L2 s.1 s.2.1 s.2.2.1 s.2.2.2.1 s.2.2.2.2).run)
    (fun s => ∃ i : Nat, a ≤ i ∧ i ≤ rs.length ∧ s = (rs, cs, (a : Int), (0, 0, 0), (i : Int)) ∧ ∀ k, a ≤ k → k < i → cs.getD k 0 ≠ 10)
    (fun s => rs.length - s.2.2.2.2.toNat)
    (fun x => (x = .inl (rs, (a : Int), 0, 0, 0) ∧ ∀ k, a ≤ k → k < rs.length → cs.getD k 0 ≠ 10) ∨ ∃ p, x = .inr p ∧ Next (fun i => rs.getD i 0) (fun i => cs.getD i 0) rs.length a p) ?_
    (rs, cs, (a : Int), (0, 0, 0), (a : Int)) ⟨a, by omega, ha, rfl, fun k h1 h2 => by omega⟩) (fun x hx => ?_)
  · rintro s ⟨i, h1, h2, rfl, h3⟩
    dsimp only
    unfold para_next_L2
    rw [Tr.run_br]
    by_cases e : i = rs.length
    · right
      subst e
      rw [if_neg (by simp), Tr.run_pure]
      exact ⟨_, rfl, .inl ⟨rfl, h3⟩⟩
    · have hi : i < rs.length := by omega
      rw [if_pos (by simp; omega), Tr.run_bnd_some (idx_getD 0 rfl (show i < cs.length by omega)), Tr.run_br, wrap64 (n := (i : Int) + 1) (by omega) (by omega), wrap64 (n := (i : Int) + 2) (by omega) (by omega)]
      by_cases hc : cs.getD i 0 = 10
      · right
        rw [if_neg (by rw [hc]; simp), Tr.run_bnd_some (idx_getD 0 rfl hi), Tr.run_br]
        have last : ¬ (rs.getD i 0 = 13 ∧ i + 1 < rs.length ∧ rs.getD (i + 1) 0 = 10) → ∃ r, (Tr.pure (Lap.done (Sum.inr ((a : Int), (i : Int) + 1, 1))) : Tr (Lap (List Int × List Int × Int × (Int × Int × Int) × Int) (Sum (List Int × Int × Int × Int × Int) (Int × Int × Int)))).run = some (.done r) ∧
            ((r = .inl (rs, (a : Int), 0, 0, 0) ∧ ∀ k, a ≤ k → k < rs.length → cs.getD k 0 ≠ 10) ∨ ∃ p, r = .inr p ∧ Next (fun i => rs.getD i 0) (fun i => cs.getD i 0) rs.length a p) :=
          fun hno => ⟨_, rfl, .inr ⟨_, rfl, .inl ⟨i, h1, hi, h3, hc, .inr ⟨hno, rfl⟩⟩⟩⟩
        by_cases h13 : rs.getD i 0 = 13
        · rw [if_pos (by simpa using h13), Tr.run_br]
          by_cases hlt : i + 1 < rs.length
          · have i1 : idx rs ((i : Int) + 1) = some (rs.getD (i + 1) 0) := idx_getD 0 (k := i + 1) (by omega) hlt
            rw [if_pos (by simp; omega), Tr.run_bnd_some i1, Tr.run_br]
            by_cases h10 : rs.getD (i + 1) 0 = 10
            · rw [if_pos (by simpa using h10), Tr.run_pure]
              exact ⟨_, rfl, .inr ⟨_, rfl, .inl ⟨i, h1, hi, h3, hc, .inl ⟨h13, hlt, h10, rfl⟩⟩⟩⟩
            · rw [if_neg (by simpa using h10)]
              exact last fun h => h10 h.2.2
          · rw [if_neg (by simp; omega)]
            exact last fun h => hlt h.2.1
        · rw [if_neg (by simpa using h13)]
          exact last fun h => h13 h.1
      · left
        rw [if_pos (by simpa using hc), Tr.run_pure]
        refine ⟨_, rfl, ⟨i + 1, by omega, by omega, rfl, fun k k1 k2 => ?_⟩, ?_⟩
        · by_cases ek : k = i
          · subst ek; exact hc
          · exact h3 k k1 (by omega)
        · dsimp only
          omega
  · obtain ⟨hlp, ⟨rfl, h⟩ | ⟨p, rfl, hp⟩⟩ := hx
    · rw [Tr.run_alt_inl hlp]
      exact ⟨_, rfl, .inr ⟨h, rfl⟩⟩
    · rw [Tr.run_alt_inr hlp]
      exact ⟨_, rfl, hp⟩
theorem getD_take (rs : List Int) (n i : Nat) (h : i < n) : (rs.take n).getD i 0 = rs.getD i 0 := by
  simp [List.getD, h]
theorem next_congr {r r' c c' : Nat → Int} {n a : Nat} {p : Int × Int × Int} (hr : ∀ i, i < n → r i = r' i) (hc : ∀ i, i < n → c i = c' i) (h : Next r c n a p) : Next r' c' n a p := by
  rcases h with ⟨i, h1, h2, h3, h4, h5⟩ | ⟨h1, h2⟩
  · refine .inl ⟨i, h1, h2, fun k k1 k2 => by rw [← hc k (by omega)]; exact h3 k k1 k2, by rw [← hc i h2]; exact h4, ?_⟩
    rcases h5 with ⟨g1, g2, g3, g4⟩ | ⟨g1, g2⟩
    · exact .inl ⟨by rw [← hr i h2]; exact g1, g2, by rw [← hr _ g2]; exact g3, g4⟩
    · exact .inr ⟨fun e => g1 ⟨by rw [hr i h2]; exact e.1, e.2.1, by rw [hr _ e.2.1]; exact e.2.2⟩, g2⟩
  · exact .inr ⟨fun k k1 k2 => by rw [← hc k k2]; exact h1 k k1 k2, h2⟩
theorem split_F (rs cs : List Int) (hn : cs.length ≤ 4194304) : ∃ ps, para_Split_F rs cs = some ps ∧ Paras (fun i => rs.getD i 0) (fun i => cs.getD i 0) (min rs.length cs.length) 0 ps (min rs.length cs.length) := by
  unfold para_Split_F para_Split_T
  generalize hN : min rs.length cs.length = n
  have hmin : (if (cs.length : Int) < (rs.length : Int) then (cs.length : Int) else (rs.length : Int)) = (n : Int) := by split <;> omega
  rw [hmin]
  refine Exists.elim (loopW_rule (f := fun s : List Int × List Int × Int × (List (Int × Int × Int)) × Int => (para_Split_L4 s.1 s.2.1 s.2.2.1 s.2.2.2.1 s.2.2.2.2).run)
    (fun s => ∃ (a : Nat) (ps : List (Int × Int × Int)), a ≤ n ∧ s = (rs, cs, (n : Int), ps, (a : Int)) ∧ Paras (fun i => rs.getD i 0) (fun i => cs.getD i 0) n 0 ps a)
    (fun s => n - s.2.2.2.2.toNat)
    (fun ps => Paras (fun i => rs.getD i 0) (fun i => cs.getD i 0) n 0 ps n) ?_ (rs, cs, (n : Int), [], 0) ⟨0, [], by omega, rfl, rfl⟩) (fun x hx => ?_)
  · rintro s ⟨a, ps, ha, rfl, hp⟩
    dsimp only
    unfold para_Split_L4
    rw [Tr.run_br]
    by_cases e : a = n
    · right
      subst e
      rw [if_neg (by simp), Tr.run_pure]
      exact ⟨_, rfl, hp⟩
    · left
      have ha' : a < n := by omega
      have hcut : cut rs 0 (n : Int) = some (rs.take n) := by
        unfold cut
        rw [if_pos (by omega)]
        simp
      have hlen : (rs.take n).length = n := by rw [List.length_take]; omega
      obtain ⟨p, hpF, hpn⟩ := next_F (rs.take n) cs a (by omega) (by omega) hn
      rw [hlen] at hpn
      have hpn := next_congr (r' := fun i => rs.getD i 0) (c' := fun i => cs.getD i 0) (fun i hi => getD_take rs n i hi) (fun _ _ => rfl) hpn
      obtain ⟨b, hb1, hb2, hb3, _⟩ := hpn.to_ ha'
      have hpl := hp.len
      have i0 : idx [p] 0 = some p := idx_get (k := 0) rfl (by simp)
      rw [if_pos (by simp; omega), Tr.run_bnd_some hcut, Tr.run_bnd_some hpF, Tr.run_bnd_some i0, Tr.run_bnd_some (app_eq (by simp; omega)), Tr.run_bnd_some i0, Tr.run_pure]
      have hs := hp.snoc ha' hpn
      rw [hb1] at hs ⊢
      refine ⟨_, rfl, ⟨b, ps ++ [p], hb3, rfl, by simpa using hs⟩, ?_⟩
      dsimp only
      omega
  · obtain ⟨hl, hx⟩ := hx
    rw [Tr.run_bnd_some hl]
    exact ⟨x, rfl, hx⟩
theorem Next.det {r c : Nat → Int} {n a : Nat} {p q : Int × Int × Int} (h : Next r c n a p) (g : Next r c n a q) : p = q := by
  rcases h with ⟨i, h1, h2, h3, h4, h5⟩ | ⟨h1, rfl⟩
  · rcases g with ⟨j, g1, g2, g3, g4, g5⟩ | ⟨g1, rfl⟩
    · have e : i = j := by
        rcases Nat.lt_trichotomy i j with l | l | l
        · exact absurd h4 (g3 i h1 l)
        · exact l
        · exact absurd g4 (h3 j g1 l)
      subst e
      rcases h5 with ⟨u1, u2, u3, rfl⟩ | ⟨u, rfl⟩
      · rcases g5 with ⟨_, _, _, rfl⟩ | ⟨v, rfl⟩
        · rfl
        · exact absurd ⟨u1, u2, u3⟩ v
      · rcases g5 with ⟨v1, v2, v3, rfl⟩ | ⟨_, rfl⟩
        · exact absurd ⟨v1, v2, v3⟩ u
        · rfl
    · exact absurd h4 (g1 i h1 h2)
  · rcases g with ⟨j, g1, g2, g3, g4, g5⟩ | ⟨_, rfl⟩
    · exact absurd g4 (h1 j g1 g2)
    · rfl
theorem Paras.det {r c : Nat → Int} {n : Nat} : ∀ {l k : List (Int × Int × Int)} {a : Nat}, Paras r c n a l n → Paras r c n a k n → l = k
  | [], [], _, _, _ => rfl
  | [], q :: k, a, h, g => by
    have h : a = n := h
    have := g.1
    omega
  | p :: l, [], a, h, g => by
    have g : a = n := g
    have := h.1
    omega
  | p :: l, q :: k, a, h, g => by
    have e := h.2.1.det g.2.1
    subst e
    rw [h.2.2.det g.2.2]

end Go.Proofs.YtenbhmjcoljddaaDoor.Pa
