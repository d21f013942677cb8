/-
  The laws of paragraphs return true.
-/
import Derived.Test.YtfljkcfahhkfbaaSh
import Derived.Test.YtfljkcfahhkfbaaEvMath
import Derived.Test.YtfljkcfahhkfbaaLawBase
namespace Go.Proofs.Ytfljkcfahhkfbaa

/-- what a paragraph is that begins at a place: of n scalars r and classes c -/
def Next (r c : Nat → Int) (n a : Nat) (p : Int × Int × Int) : Prop :=
  (∃ i : Nat, a ≤ i ∧ i < n ∧ (∀ k, a ≤ k → k < i → c k ≠ 10) ∧ c i = 10 ∧
    ((r i = 13 ∧ i + 1 < n ∧ r (i + 1) = 10 ∧ p = ((a : Int), ((i + 2 : Nat) : Int), 2)) ∨ (¬ (r i = 13 ∧ i + 1 < n ∧ r (i + 1) = 10) ∧ p = ((a : Int), ((i + 1 : Nat) : Int), 1)))) ∨
  ((∀ k, a ≤ k → k < n → c k ≠ 10) ∧ p = ((a : Int), (n : Int), 0))
theorem Next.to_ {r c : Nat → Int} {n a : Nat} {p : Int × Int × Int} (h : Next r c n a p) (ha : a < n) : ∃ b : Nat, p.2.1 = (b : Int) ∧ a < b ∧ b ≤ n ∧ p.1 = (a : Int) := by
  rcases h with ⟨i, h1, h2, _, _, ⟨_, h3, _, rfl⟩ | ⟨_, rfl⟩⟩ | ⟨_, rfl⟩
  · exact ⟨i + 2, rfl, by omega, by omega, rfl⟩
  · exact ⟨i + 1, rfl, by omega, by omega, rfl⟩
  · exact ⟨n, rfl, ha, by omega, rfl⟩
/-- paragraphs that follow one another -/
def Paras (r c : Nat → Int) (n : Nat) : Nat → List (Int × Int × Int) → Nat → Prop
  | a, [], b => a = b
  | a, p :: l, b => a < n ∧ Next r c n a p ∧ Paras r c n p.2.1.toNat l b
theorem Paras.snoc {r c : Nat → Int} {n : Nat} {p : Int × Int × Int} : ∀ {l : List (Int × Int × Int)} {a b : Nat}, Paras r c n a l b → b < n → Next r c n b p → Paras r c n a (l ++ [p]) p.2.1.toNat
  | [], a, b, h, hb, hp => by
    have h : a = b := h
    subst h
    exact ⟨hb, hp, rfl⟩
  | q :: l, a, b, h, hb, hp => ⟨h.1, h.2.1, h.2.2.snoc hb hp⟩
theorem Paras.len {r c : Nat → Int} {n : Nat} : ∀ {l : List (Int × Int × Int)} {a b : Nat}, Paras r c n a l b → a + l.length ≤ b
  | [], a, b, h => by
    have h : a = b := h
    simp [h]
  | q :: l, a, b, h => by
    obtain ⟨d, h1, h2, _, _⟩ := h.2.1.to_ h.1
    have := h.2.2.len
    rw [h1] at this
    simp only [List.length_cons]
    simp at this
    omega

theorem next_F (rs cs : List Int) (a : Nat) (ha : a ≤ rs.length) (hl : rs.length ≤ cs.length) (hn : cs.length ≤ 4194304) :
    ∃ p, para_next_F rs cs (a : Int) = some p ∧ Next (fun i => rs.getD i 0) (fun i => cs.getD i 0) rs.length a p := by
  unfold para_next_F para_next_T
  refine Exists.elim (loopW_rule (f := fun s : List Int × List Int × Int × (Int × Int × Int) × Int => (para_next_L2 s.1 s.2.1 s.2.2.1 s.2.2.2.1 s.2.2.2.2).run)
    (fun s => ∃ i : Nat, a ≤ i ∧ i ≤ rs.length ∧ s = (rs, cs, (a : Int), (0, 0, 0), (i : Int)) ∧ ∀ k, a ≤ k → k < i → cs.getD k 0 ≠ 10)
    (fun s => rs.length - s.2.2.2.2.toNat)
    (fun x => (x = .inl (rs, (a : Int), 0, 0, 0) ∧ ∀ k, a ≤ k → k < rs.length → cs.getD k 0 ≠ 10) ∨ ∃ p, x = .inr p ∧ Next (fun i => rs.getD i 0) (fun i => cs.getD i 0) rs.length a p) ?_
    (rs, cs, (a : Int), (0, 0, 0), (a : Int)) ⟨a, by omega, ha, rfl, fun k h1 h2 => by omega⟩) (fun x hx => ?_)
  · rintro s ⟨i, h1, h2, rfl, h3⟩
    dsimp only
    unfold para_next_L2
    rw [Tr.run_br]
    by_cases e : i = rs.length
    · right
      subst e
      rw [if_neg (by simp), Tr.run_pure]
      exact ⟨_, rfl, .inl ⟨rfl, h3⟩⟩
    · have hi : i < rs.length := by omega
      rw [if_pos (by simp; omega), Tr.run_bnd_some (idx_getD 0 rfl (show i < cs.length by omega)), Tr.run_br, wrap64 (n := (i : Int) + 1) (by omega) (by omega), wrap64 (n := (i : Int) + 2) (by omega) (by omega)]
      by_cases hc : cs.getD i 0 = 10
      · right
        rw [if_neg (by rw [hc]; simp), Tr.run_bnd_some (idx_getD 0 rfl hi), Tr.run_br]
        have last : ¬ (rs.getD i 0 = 13 ∧ i + 1 < rs.length ∧ rs.getD (i + 1) 0 = 10) → ∃ r, (Tr.pure (Lap.done (Sum.inr ((a : Int), (i : Int) + 1, 1))) : Tr (Lap (List Int × List Int × Int × (Int × Int × Int) × Int) (Sum (List Int × Int × Int × Int × Int) (Int × Int × Int)))).run = some (.done r) ∧
            ((r = .inl (rs, (a : Int), 0, 0, 0) ∧ ∀ k, a ≤ k → k < rs.length → cs.getD k 0 ≠ 10) ∨ ∃ p, r = .inr p ∧ Next (fun i => rs.getD i 0) (fun i => cs.getD i 0) rs.length a p) :=
          fun hno => ⟨_, rfl, .inr ⟨_, rfl, .inl ⟨i, h1, hi, h3, hc, .inr ⟨hno, rfl⟩⟩⟩⟩
        by_cases h13 : rs.getD i 0 = 13
        · rw [if_pos (by simpa using h13), Tr.run_br]
          by_cases hlt : i + 1 < rs.length
          · have i1 : idx rs ((i : Int) + 1) = some (rs.getD (i + 1) 0) := idx_getD 0 (k := i + 1) (by omega) hlt
            rw [if_pos (by simp; omega), Tr.run_bnd_some i1, Tr.run_br]
            by_cases h10 : rs.getD (i + 1) 0 = 10
            · rw [if_pos (by simpa using h10), Tr.run_pure]
              exact ⟨_, rfl, .inr ⟨_, rfl, .inl ⟨i, h1, hi, h3, hc, .inl ⟨h13, hlt, h10, rfl⟩⟩⟩⟩
            · rw [if_neg (by simpa using h10)]
              exact last fun h => h10 h.2.2
          · rw [if_neg (by simp; omega)]
            exact last fun h => hlt h.2.1
        · rw [if_neg (by simpa using h13)]
          exact last fun h => h13 h.1
      · left
        rw [if_pos (by simpa using hc), Tr.run_pure]
        refine ⟨_, rfl, ⟨i + 1, by omega, by omega, rfl, fun k k1 k2 => ?_⟩, ?_⟩
        · by_cases ek : k = i
          · subst ek; exact hc
          · exact h3 k k1 (by omega)
        · dsimp only
          omega
  · obtain ⟨hlp, ⟨rfl, h⟩ | ⟨p, rfl, hp⟩⟩ := hx
    · rw [Tr.run_alt_inl hlp]
      exact ⟨_, rfl, .inr ⟨h, rfl⟩⟩
    · rw [Tr.run_alt_inr hlp]
      exact ⟨_, rfl, hp⟩

theorem getD_take (rs : List Int) (n i : Nat) (h : i < n) : (rs.take n).getD i 0 = rs.getD i 0 := by
  simp [List.getD, h]

theorem next_congr {r r' c c' : Nat → Int} {n a : Nat} {p : Int × Int × Int} (hr : ∀ i, i < n → r i = r' i) (hc : ∀ i, i < n → c i = c' i) (h : Next r c n a p) : Next r' c' n a p := by
  rcases h with ⟨i, h1, h2, h3, h4, h5⟩ | ⟨h1, h2⟩
  · refine .inl ⟨i, h1, h2, fun k k1 k2 => by rw [← hc k (by omega)]; exact h3 k k1 k2, by rw [← hc i h2]; exact h4, ?_⟩
    rcases h5 with ⟨g1, g2, g3, g4⟩ | ⟨g1, g2⟩
    · exact .inl ⟨by rw [← hr i h2]; exact g1, g2, by rw [← hr _ g2]; exact g3, g4⟩
    · exact .inr ⟨fun e => g1 ⟨by rw [hr i h2]; exact e.1, e.2.1, by rw [hr _ e.2.1]; exact e.2.2⟩, g2⟩
  · exact .inr ⟨fun k k1 k2 => by rw [← hc k k2]; exact h1 k k1 k2, h2⟩

theorem split_F (rs cs : List Int) (hn : cs.length ≤ 4194304) : ∃ ps, para_Split_F rs cs = some ps ∧ Paras (fun i => rs.getD i 0) (fun i => cs.getD i 0) (min rs.length cs.length) 0 ps (min rs.length cs.length) := by
  unfold para_Split_F para_Split_T
  generalize hN : min rs.length cs.length = n
  have hmin : (if (cs.length : Int) < (rs.length : Int) then (cs.length : Int) else (rs.length : Int)) = (n : Int) := by split <;> omega
  rw [hmin]
  refine Exists.elim (loopW_rule (f := fun s : List Int × List Int × Int × (List (Int × Int × Int)) × Int => (para_Split_L4 s.1 s.2.1 s.2.2.1 s.2.2.2.1 s.2.2.2.2).run)
    (fun s => ∃ (a : Nat) (ps : List (Int × Int × Int)), a ≤ n ∧ s = (rs, cs, (n : Int), ps, (a : Int)) ∧ Paras (fun i => rs.getD i 0) (fun i => cs.getD i 0) n 0 ps a)
    (fun s => n - s.2.2.2.2.toNat)
    (fun ps => Paras (fun i => rs.getD i 0) (fun i => cs.getD i 0) n 0 ps n) ?_ (rs, cs, (n : Int), [], 0) ⟨0, [], by omega, rfl, rfl⟩) (fun x hx => ?_)
  · rintro s ⟨a, ps, ha, rfl, hp⟩
    dsimp only
    unfold para_Split_L4
    rw [Tr.run_br]
    by_cases e : a = n
    · right
      subst e
      rw [if_neg (by simp), Tr.run_pure]
      exact ⟨_, rfl, hp⟩
    · left
      have ha' : a < n := by omega
      have hcut : cut rs 0 (n : Int) = some (rs.take n) := by
        unfold cut
        rw [if_pos (by omega)]
        simp
      have hlen : (rs.take n).length = n := by rw [List.length_take]; omega
      obtain ⟨p, hpF, hpn⟩ := next_F (rs.take n) cs a (by omega) (by omega) hn
      rw [hlen] at hpn
      have hpn := next_congr (r' := fun i => rs.getD i 0) (c' := fun i => cs.getD i 0) (fun i hi => getD_take rs n i hi) (fun _ _ => rfl) hpn
      obtain ⟨b, hb1, hb2, hb3, _⟩ := hpn.to_ ha'
      have hpl := hp.len
      have i0 : idx [p] 0 = some p := idx_get (k := 0) rfl (by simp)
      rw [if_pos (by simp; omega), Tr.run_bnd_some hcut, Tr.run_bnd_some hpF, Tr.run_bnd_some i0, Tr.run_bnd_some (app_eq (by simp; omega)), Tr.run_bnd_some i0, Tr.run_pure]
      have hs := hp.snoc ha' hpn
      rw [hb1] at hs ⊢
      refine ⟨_, rfl, ⟨b, ps ++ [p], hb3, rfl, by simpa using hs⟩, ?_⟩
      dsimp only
      omega
  · obtain ⟨hl, hx⟩ := hx
    rw [Tr.run_bnd_some hl]
    exact ⟨x, rfl, hx⟩

theorem awake08 : law08_awake_F = some true := by
  unfold law08_awake_F law08_awake_T
  have n1 : para_next_F [97, 13, 10, 98] [0, 10, 10, 0] 0 = some (0, 3, 2) := by
    unfold para_next_F para_next_T
    rw [Tr.run_alt_inr (loopW_eq (n := 10) (r := Sum.inr (0, 3, 2)) (by rfl))]; rfl
  have n2 : para_next_F [97, 13, 10, 98] [0, 10, 10, 0] 3 = some (3, 4, 0) := by
    unfold para_next_F para_next_T
    rw [Tr.run_alt_inl (loopW_eq (n := 10) (r := Sum.inl ([97, 13, 10, 98], 3, 0, 0, 0)) (by rfl))]; rfl
  have n3 : para_next_F [10, 10] [10, 10] 0 = some (0, 1, 1) := by
    unfold para_next_F para_next_T
    rw [Tr.run_alt_inr (loopW_eq (n := 10) (r := Sum.inr (0, 1, 1)) (by rfl))]; rfl
  have n4 : para_next_F [10, 10] [10, 10] 1 = some (1, 2, 1) := by
    unfold para_next_F para_next_T
    rw [Tr.run_alt_inr (loopW_eq (n := 10) (r := Sum.inr (1, 2, 1)) (by rfl))]; rfl
  have s1 : para_Split_F [97, 13, 10, 98] [0, 10, 10, 0] = some [(0, 3, 2), (3, 4, 0)] := by
    unfold para_Split_F para_Split_T
    rw [Tr.run_bnd_some (b := [(0, 3, 2), (3, 4, 0)])]
    · rfl
    · refine loopW_next (s' := ([97, 13, 10, 98], [0, 10, 10, 0], 4, [(0, 3, 2)], 3)) ?_ (loopW_next (s' := ([97, 13, 10, 98], [0, 10, 10, 0], 4, [(0, 3, 2), (3, 4, 0)], 4)) ?_ (loopW_done ?_))
      · show (para_Split_L4 [97, 13, 10, 98] [0, 10, 10, 0] 4 [] 0).run = _
        unfold para_Split_L4
        rw [Tr.run_br, if_pos (by decide), Tr.run_bnd_some (show cut ([97, 13, 10, 98] : List Int) 0 4 = some [97, 13, 10, 98] from rfl), Tr.run_bnd_some n1]
        rfl
      · show (para_Split_L4 [97, 13, 10, 98] [0, 10, 10, 0] 4 [(0, 3, 2)] 3).run = _
        unfold para_Split_L4
        rw [Tr.run_br, if_pos (by decide), Tr.run_bnd_some (show cut ([97, 13, 10, 98] : List Int) 0 4 = some [97, 13, 10, 98] from rfl), Tr.run_bnd_some n2]
        rfl
      · rfl
  have s2 : para_Split_F [10, 10] [10, 10] = some [(0, 1, 1), (1, 2, 1)] := by
    unfold para_Split_F para_Split_T
    rw [Tr.run_bnd_some (b := [(0, 1, 1), (1, 2, 1)])]
    · rfl
    · refine loopW_next (s' := ([10, 10], [10, 10], 2, [(0, 1, 1)], 1)) ?_ (loopW_next (s' := ([10, 10], [10, 10], 2, [(0, 1, 1), (1, 2, 1)], 2)) ?_ (loopW_done ?_))
      · show (para_Split_L4 [10, 10] [10, 10] 2 [] 0).run = _
        unfold para_Split_L4
        rw [Tr.run_br, if_pos (by decide), Tr.run_bnd_some (show cut ([10, 10] : List Int) 0 2 = some [10, 10] from rfl), Tr.run_bnd_some n3]
        rfl
      · show (para_Split_L4 [10, 10] [10, 10] 2 [(0, 1, 1)] 1).run = _
        unfold para_Split_L4
        rw [Tr.run_br, if_pos (by decide), Tr.run_bnd_some (show cut ([10, 10] : List Int) 0 2 = some [10, 10] from rfl), Tr.run_bnd_some n4]
        rfl
      · rfl
  rw [Tr.run_bnd_some s1, Tr.run_bnd_some s2]
  rfl

theorem paraShort_true (rs ns : List Int) (hn : ns.length ≤ 2097152) (h8 : ∀ n ∈ ns, 0 ≤ n ∧ n ≤ 255) : law08_ParaShort_F rs ns = some true := by
  obtain ⟨cs, hc, hlen, _, _⟩ := classes_F ns hn h8
  unfold law08_ParaShort_F law08_ParaShort_T
  rw [Tr.run_bnd_some awake08, Tr.run_br, if_neg (by simp), Tr.run_bnd_some hc]
  refine Exists.elim (loopW_rule (f := fun s : List Int × List Int × Int => (law08_ParaShort_L5 s.1 s.2.1 s.2.2).run)
    (fun s => ∃ (k : Nat) (ds : List Int), k ≤ cs.length ∧ ds.length = cs.length ∧ s = (rs, ds, (k : Int)) ∧ ∀ i, i < k → ds.getD i 0 ≠ 10)
    (fun s => cs.length - s.2.2.toNat)
    (fun x => ∃ ds : List Int, ds.length = cs.length ∧ x = (rs, ds) ∧ ∀ i, i < ds.length → ds.getD i 0 ≠ 10) ?_ (rs, cs, 0) ⟨0, cs, by omega, rfl, rfl, fun i hi => by omega⟩) (fun x hx => ?_)
  · rintro s ⟨k, ds, hk, hd, rfl, hh⟩
    dsimp only
    unfold law08_ParaShort_L5
    rw [Tr.run_br]
    by_cases e : k = cs.length
    · right
      rw [if_neg (by simp; omega), Tr.run_pure]
      exact ⟨_, rfl, ds, hd, rfl, fun i hi => hh i (by omega)⟩
    · left
      have hk' : k < ds.length := by omega
      rw [if_pos (by simp; omega), Tr.run_bnd_some (idx_getD 0 rfl hk'), Tr.run_br, wrap64 (by omega) (by omega)]
      by_cases h10 : ds.getD k 0 = 10
      · rw [if_pos (by simpa using h10), Tr.run_bnd_some (idx_getD 0 rfl hk'), Tr.run_pure]
        refine ⟨_, rfl, ⟨k + 1, ds.set k 11, by omega, by simp [hd], rfl, fun i hi => ?_⟩, by dsimp only; omega⟩
        by_cases ei : i = k
        · subst ei
          simp [List.getD, hk']
        · have := hh i (by omega)
          simp only [List.getD] at this ⊢
          rw [List.getElem?_set_ne (by omega)]
          exact this
      · rw [if_neg (by simpa using h10), Tr.run_pure]
        refine ⟨_, rfl, ⟨k + 1, ds, by omega, hd, rfl, fun i hi => ?_⟩, by dsimp only; omega⟩
        by_cases ei : i = k
        · subst ei; exact h10
        · exact hh i (by omega)
  · obtain ⟨hl, ds, hd, rfl, hh⟩ := hx
    obtain ⟨ps, hps, hpar⟩ := split_F rs ds (by omega)
    rw [Tr.run_bnd_some hl]
    dsimp only
    rw [Tr.run_bnd_some hps]
    generalize hN : min rs.length ds.length = n at hpar
    have hmin : (if (ds.length : Int) < (rs.length : Int) then (ds.length : Int) else (rs.length : Int)) = (n : Int) := by split <;> omega
    rw [hmin]
    cases ps with
    | nil =>
      have : 0 = n := hpar
      subst this
      rfl
    | cons p l =>
      obtain ⟨h0, hp, hrest⟩ := hpar
      have hp' : p = (((0 : Nat) : Int), (n : Int), 0) := by
        rcases hp with ⟨i, _, h2, _, h4, _⟩ | ⟨_, h⟩
        · exact absurd h4 (hh i (by omega))
        · exact h
      subst hp'
      have hl0 : l = [] := by
        cases l with
        | nil => rfl
        | cons q l =>
          have := hrest.1
          simp at this
      subst hl0
      have i0 : idx [(((0 : Nat) : Int), (n : Int), (0 : Int))] 0 = some (((0 : Nat) : Int), (n : Int), 0) := idx_get (k := 0) rfl (by simp)
      rw [Tr.run_br, if_neg (by simp; omega), Tr.run_br, if_pos (by simp; omega), Tr.run_br, if_pos (by simp), Tr.run_bnd_some i0, Tr.run_pure]
      simp

theorem paraShort_all (x : Tys.I [.sl (.int .i32), .sl (.int .u8)]) (h : WfAll [.sl (.int .i32), .sl (.int .u8)] x) (hb : bulkAll [.sl (.int .i32), .sl (.int .u8)] x ≤ 1048576) : law08_ParaShort_F x.1 x.2.1 = some true := by
  simp only [bulkAll, bulk] at hb
  exact paraShort_true _ _ (by omega) (fun n hn => wf_u8 (h.2.1.2 n hn))

end Go.Proofs.Ytfljkcfahhkfbaa
