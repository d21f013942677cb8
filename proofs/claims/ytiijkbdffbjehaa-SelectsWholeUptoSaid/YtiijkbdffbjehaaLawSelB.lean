/-
  The laws of selects: bands, places and cells belong together.
-/
import Derived.Test.YtiijkbdffbjehaaLawSel
namespace Go.Proofs.Ytiijkbdffbjehaa
set_option linter.all false

theorem Bands.small {v w : List Int} {f t : Int} {bs : List (Int × Int)} (h : Line v w) (hb : Bands v w f t w.length bs) : 0 ≤ pre w w.length ∧ pre w w.length ≤ 8388608 ∧ bend (-1) bs ≤ 8388608 ∧ bs.length ≤ 4194304 := by
  have h1 := pre_small h.small w.length (Nat.le_refl _)
  have h2 := hb.le
  have h3 := hb.len
  have h4 := h.small.1
  omega

theorem selectsBands_F (ls ws : List Int) (f t : Int) (hn : ls.length ≤ 2097152) (h8 : ∀ n ∈ ls, 0 ≤ n ∧ n ≤ 255) (hn2 : ws.length ≤ 2097152) (h82 : ∀ n ∈ ws, 0 ≤ n ∧ n ≤ 255) : law35_SelectsBands_F ls ws f t = some true := by
  obtain ⟨v, w, hline, h⟩ := line_F ls ws hn h8 hn2 h82
  obtain ⟨bs, hbs, hb⟩ := bands_F h f t
  obtain ⟨hs0, hs1, hs2, hs3⟩ := hb.small h
  obtain ⟨N, hN⟩ : ∃ N : Nat, (pre w w.length).toNat = N := ⟨_, rfl⟩
  unfold law35_SelectsBands_F law35_SelectsBands_T
  have hcov := cover_F h f t
  rw [hN] at hcov
  have hloop := loop_ex (L := fun s : List Bool × Int × Int × List (Int × Int) × Int × Int => law35_SelectsBands_L8 s.1 s.2.1 s.2.2.1 s.2.2.2.1 s.2.2.2.2.1 s.2.2.2.2.2)
    (I := fun s => ∃ A B : List (Int × Int), bs = A ++ B ∧ s = (tab N (fun c => cel v w f t (c : Int)), bend (-1) A, sumc A, bs, (bs.length : Int), (A.length : Int)))
    (m := fun s => bs.length - s.2.2.2.2.2.toNat) (R := fun r => r = .inl (tab N (fun c => cel v w f t (c : Int)), bend (-1) bs, sumc bs, bs)) (s0 := (tab N (fun c => cel v w f t (c : Int)), -1, 0, bs, (bs.length : Int), 0))
    (by
      rintro s ⟨A, B, e, rfl⟩
      dsimp only
      unfold law35_SelectsBands_L8
      cases B with
      | nil =>
        rw [List.append_nil] at e
        subst e
        exact Post.brF (by simp) (Post.pure rfl)
      | cons b B =>
        have hl : bs.length = A.length + (B.length + 1) := by rw [e]; simp
        have hp2 := hb.pb
        rw [e] at hp2
        have hpp := (Pb_app A (b :: B) (-1)).1 hp2
        have h1 := Pb_le A (-1) hpp.1
        have h2 := Pb_le B b.2 hpp.2.2.2.2
        have h3 : bend (-1) A < b.1 := hpp.2.1
        have h4 : b.1 < b.2 := hpp.2.2.1
        have h5 : ∀ c, bend (-1) A ≤ c → 0 ≤ c → c < b.2 → cel v w f t c = decide (b.1 ≤ c) := hpp.2.2.2.1
        have hbe : bend (-1) bs = bend b.2 B := by rw [e, bend_app]; rfl
        have hle := hb.le
        generalize bend (-1) A = last at *
        refine Post.brT (by rw [decide_eq_true_eq]; omega) (Post.bnd (show idx bs (A.length : Int) = some b by rw [e]; exact idxm rfl) ?_)
        refine Post.bnd (b := b) rfl (Post.brF (by rw [decide_eq_false_iff_not]; omega) (Post.bnd (b := b) rfl (Post.bnd (b := b) rfl (Post.brF (by rw [decide_eq_false_iff_not]; omega) (Post.bnd (b := b) rfl (Post.brF (by rw [decide_eq_false_iff_not, tab_len]; omega) ?_))))))
        have hin := loop_ex (L := fun s : List Bool × Int × List (Int × Int) × (Int × Int) × Int × Int × Int => law35_SelectsBands_L13 s.1 s.2.1 s.2.2.1 s.2.2.2.1 s.2.2.2.2.1 s.2.2.2.2.2.1 s.2.2.2.2.2.2)
          (I := fun s => ∃ k : Nat, last ≤ k ∧ (k : Int) ≤ b.2 ∧ s = (tab N (fun c => cel v w f t (c : Int)), sumc A, bs, b, (k : Int), (bs.length : Int), (A.length : Int)))
          (m := fun s => b.2.toNat - s.2.2.2.2.1.toNat) (R := fun r => r = .inl (tab N (fun c => cel v w f t (c : Int)), sumc A, bs, b, (bs.length : Int), (A.length : Int)))
          (s0 := (tab N (fun c => cel v w f t (c : Int)), sumc A, bs, b, if last > 0 then last else 0, (bs.length : Int), (A.length : Int)))
          (by
            rintro s ⟨k, k1, k2, rfl⟩
            dsimp only
            unfold law35_SelectsBands_L13
            refine Post.bnd (b := b) rfl (Post.br (fun hk => ?_) (fun hk => Post.pure rfl))
            rw [decide_eq_true_eq] at hk
            refine ptab k rfl (by omega) (Post.bnd (b := b) rfl (Post.brF ?_ (Post.pure ⟨⟨k + 1, by omega, by omega, ?_⟩, ?_⟩)))
            · rw [h5 k k1 (by omega) hk]
              simp
            · rw [wrap_succ (by omega)]
            · dsimp only
              rw [wrap_succ (by omega)]
              omega)
          ⟨(if last > 0 then last else 0).toNat, by split <;> omega, by split <;> omega, by congr 5; split <;> omega⟩
        obtain ⟨r, hr, rfl⟩ := hin
        refine Post.altL hr (Post.bnd (b := b) rfl (Post.bnd (b := b) rfl (Post.bnd (b := b) rfl (Post.pure ⟨⟨A ++ [b], B, by rw [e]; simp, ?_⟩, ?_⟩))))
        · dsimp only
          rw [wrap64 (n := b.2 - b.1) (by omega) (by omega), wrap64 (n := sumc A + (b.2 - b.1)) (by omega) (by omega), wrap_succ (by omega), sumc_app, bend_app, List.length_append, List.length_singleton]
          simp [sumc, bend]
        · dsimp only
          rw [wrap_succ (by omega)]
          omega)
    ⟨[], bs, rfl, rfl⟩
  obtain ⟨r, hr, rfl⟩ := hloop
  refine Post.run (Post.bnd awake35 (Post.brF (by rfl) (Post.bnd hline (Post.bnd hcov (Post.bnd hbs (Post.altL hr ?_))))))
  have hrest := hb.rest
  have hsum := sum_F hb.pb (by omega) hs3
  dsimp only
  generalize bend (-1) bs = last at *
  have hlast := loop_ex (L := fun s : List Bool × Int × List (Int × Int) × Int => law35_SelectsBands_L21 s.1 s.2.1 s.2.2.1 s.2.2.2)
    (I := fun s => ∃ k : Nat, last ≤ k ∧ s = (tab N (fun c => cel v w f t (c : Int)), sumc bs, bs, (k : Int)))
    (m := fun s => N - s.2.2.2.toNat) (R := fun r => r = .inl (sumc bs, bs)) (s0 := (tab N (fun c => cel v w f t (c : Int)), sumc bs, bs, if last > 0 then last else 0))
    (by
      rintro s ⟨k, k1, rfl⟩
      dsimp only
      unfold law35_SelectsBands_L21
      refine Post.br (fun hk => ?_) (fun hk => Post.pure rfl)
      rw [decide_eq_true_eq, tab_len] at hk
      refine ptab k rfl (by omega) (Post.brF (hrest k k1 (by omega) (by omega)) (Post.pure ⟨⟨k + 1, by omega, ?_⟩, ?_⟩))
      · rw [wrap_succ (by omega)]
      · dsimp only
        rw [wrap_succ (by omega)]
        omega)
    ⟨(if last > 0 then last else 0).toNat, by split <;> omega, by congr 3; split <;> omega⟩
  obtain ⟨r, hr2, rfl⟩ := hlast
  exact Post.altL hr2 (Post.bnd hsum (Post.pure (by simp)))

theorem selectsBands_all (x : Tys.I [.sl (.int .u8), .sl (.int .u8), .int .i64, .int .i64]) (h : WfAll [.sl (.int .u8), .sl (.int .u8), .int .i64, .int .i64] x) (hb : bulkAll [.sl (.int .u8), .sl (.int .u8), .int .i64, .int .i64] x ≤ 1048576) :
    law35_SelectsBands_F x.1 x.2.1 x.2.2.1 x.2.2.2.1 = some true := by
  simp only [bulkAll, bulk] at hb
  exact selectsBands_F _ _ _ _ (by omega) (fun n hn => wf_u8 (h.1.2 n hn)) (by omega) (fun n hn => wf_u8 (h.2.1.2 n hn))

/-! ### all of a line -/
theorem selectsWhole_F (ls ws : List Int) (a : Int) (hn : ls.length ≤ 2097152) (h8 : ∀ n ∈ ls, 0 ≤ n ∧ n ≤ 255) (hn2 : ws.length ≤ 2097152) (h82 : ∀ n ∈ ws, 0 ≤ n ∧ n ≤ 255) : law35_SelectsWhole_F ls ws a = some true := by
  obtain ⟨v, w, hline, h⟩ := line_F ls ws hn h8 hn2 h82
  have hl := h.len
  obtain ⟨bs, hbs, hb⟩ := bands_F h 0 (v.length : Int)
  obtain ⟨es, hes, he⟩ := bands_F h a a
  obtain ⟨hs0, hs1, hs2, hs3⟩ := hb.small h
  obtain ⟨N, hN⟩ : ∃ N : Nat, (pre w w.length).toNat = N := ⟨_, rfl⟩
  have hcov := cover_F h 0 0
  rw [hN] at hcov
  have hsum := sum_F hb.pb (by omega) hs3
  have find : ∀ n, n ≤ w.length → ∀ c : Int, 0 ≤ c → c < pre w n → ∃ k, k < n ∧ pre w k ≤ c ∧ c < pre w (k + 1) := fun n => by
    induction n with
    | zero => intro _ c c0 c1; rw [pre_zero] at c1; omega
    | succ n ih =>
      intro hn c c0 c1
      by_cases e : c < pre w n
      · obtain ⟨k, k1, k2⟩ := ih (by omega) c c0 e
        exact ⟨k, by omega, k2⟩
      · exact ⟨n, by omega, by omega, c1⟩
  have all : ∀ c : Int, 0 ≤ c → c < pre w w.length → cel v w 0 (v.length : Int) c = true := fun c c0 c1 => by
    obtain ⟨k, k1, k2, k3⟩ := find _ (Nat.le_refl _) c c0 c1
    rw [cel_at h.small _ _ k1 k2 k3]
    have := h.mem k1
    exact decide_eq_true (by omega)
  have none : ∀ c : Int, cel v w a a c = false := fun c => by
    unfold cel owns
    rw [List.any_eq_false]
    intro k _
    simp only [Bool.and_eq_true, decide_eq_true_eq]
    omega
  have hes0 : es = [] := by
    have hp := he.pb
    cases es with
    | nil => rfl
    | cons b es =>
      have h1 := hp.1
      have h2 := hp.2.1
      have h3 := hp.2.2.1 b.1 (by omega) (by omega) h2
      rw [none] at h3
      simp at h3
  subst hes0
  have hbs1 : (N = 0 ∧ bs = []) ∨ (0 < N ∧ bs = [(0, (N : Int))]) := by
    have hp := hb.pb
    have hr := hb.rest
    have hle := hb.le
    cases bs with
    | nil =>
      refine .inl ⟨?_, rfl⟩
      by_cases e : 0 < N
      · have := hr 0 (by simp [bend]) (Int.le_refl _) (by omega)
        rw [all 0 (Int.le_refl _) (by omega)] at this
        cases this
      · omega
    | cons b bs =>
      have h1 := hp.1
      have h2 := hp.2.1
      have h4 := Pb_le bs b.2 hp.2.2.2
      have hle2 : bend b.2 bs ≤ pre w w.length := hle
      have h3 := hp.2.2.1 0 (by omega) (Int.le_refl _) (by omega)
      rw [all 0 (Int.le_refl _) (by omega)] at h3
      have h3 := of_decide_eq_true h3.symm
      have hb1 : b.1 = 0 := by omega
      cases bs with
      | nil =>
        have hr2 := hr b.2 (Int.le_refl _) (by omega)
        by_cases e : b.2 < pre w w.length
        · have := hr2 e
          rw [all b.2 (by omega) e] at this
          cases this
        · simp only [bend] at hle2
          refine .inr ⟨by omega, ?_⟩
          obtain ⟨b1, b2⟩ := b
          dsimp only at *
          rw [hb1, show b2 = (N : Int) by omega]
      | cons b' bs =>
        have g := hp.2.2.2
        have g1 : b.2 < b'.1 := g.1
        have g2 := g.2.1
        have g4 := Pb_le bs b'.2 g.2.2.2
        have hle3 : bend b'.2 bs ≤ pre w w.length := hle
        have g3 := g.2.2.1 b.2 (Int.le_refl _) (by omega) (by omega)
        rw [all b.2 (by omega) (by omega)] at g3
        have := of_decide_eq_true g3.symm
        omega
  unfold law35_SelectsWhole_F law35_SelectsWhole_T
  refine Post.run (Post.bnd awake35 (Post.brF (by rfl) (Post.bnd hline (Post.bnd hcov (Post.bnd hbs (Post.bnd hes (Post.brT (by rfl) (Post.bnd hsum ?_))))))))
  rw [tab_len]
  rcases hbs1 with ⟨e1, e2⟩ | ⟨e1, e2⟩
  · subst e1 e2
    exact Post.brT (by rfl) (Post.brT (by rfl) (Post.brT (by rfl) (Post.pure rfl)))
  · subst e2
    have e0 : (N : Int) ≠ 0 := by omega
    exact Post.brT (by simp [sumc]) (Post.brF (by simpa using e0) (Post.brT (by rw [decide_eq_true_eq]; omega) (Post.brT (by rfl) (Post.bnd (b := (0, (N : Int))) rfl (Post.pure (by simp))))))

theorem selectsWhole_all (x : Tys.I [.sl (.int .u8), .sl (.int .u8), .int .i64]) (h : WfAll [.sl (.int .u8), .sl (.int .u8), .int .i64] x) (hb : bulkAll [.sl (.int .u8), .sl (.int .u8), .int .i64] x ≤ 1048576) :
    law35_SelectsWhole_F x.1 x.2.1 x.2.2.1 = some true := by
  simp only [bulkAll, bulk] at hb
  exact selectsWhole_F _ _ _ (by omega) (fun n hn => wf_u8 (h.1.2 n hn)) (by omega) (fun n hn => wf_u8 (h.2.1.2 n hn))

end Go.Proofs.Ytiijkbdffbjehaa
