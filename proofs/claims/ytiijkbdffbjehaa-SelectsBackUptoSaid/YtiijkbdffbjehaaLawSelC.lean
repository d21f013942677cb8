/-
  Back from bands to places.
-/
import Derived.Test.YtiijkbdffbjehaaLawSel
namespace Go.Proofs.Ytiijkbdffbjehaa
set_option linter.all false

theorem places_v (b : Nat → Bool) : ∀ n, places b n = vplaces (fun k => if b k = true then 0 else -1) n
  | 0 => rfl
  | n + 1 => by
    rw [places_succ, places_v b n]
    show _ = if (if b n = true then (0 : Int) else -1) = -1 then _ else _
    by_cases h : b n = true
    · rw [if_pos h, if_pos h, if_neg (by decide)]
    · rw [if_neg h, if_neg h, if_pos rfl, List.append_nil]
theorem places_nodup (b : Nat → Bool) (n : Nat) : (places b n).Nodup := by
  rw [places_v]; exact vplaces_nodup _ _
theorem places_mem (b : Nat → Bool) (n : Nat) (x : Int) : x ∈ places b n ↔ ∃ k : Nat, k < n ∧ x = (k : Int) ∧ b k = true := by
  rw [places_v, vplaces_mem]
  constructor
  · rintro ⟨k, h1, h2, h3⟩
    refine ⟨k, h1, h2, ?_⟩
    by_cases h : b k = true
    · exact h
    · rw [if_neg h] at h3; exact absurd rfl h3
  · rintro ⟨k, h1, h2, h3⟩
    exact ⟨k, h1, h2, by rw [if_pos h3]; decide⟩

def sel (v w : List Int) (f t : Int) (k : Nat) : Bool := decide (0 < w.getD k 0) && owns v f t k
/-- the places of the first cells that were met -/
def seen (v w : List Int) (f t e : Int) (p : Nat) : Bool := (List.range w.length).any fun k => decide (v.getD k 0 = (p : Int)) && (sel v w f t k && decide (pre w k < e))
theorem seen_iff {v w : List Int} {f t e : Int} {p : Nat} : seen v w f t e p = true ↔ ∃ k, k < w.length ∧ v.getD k 0 = (p : Int) ∧ sel v w f t k = true ∧ pre w k < e := by
  unfold seen
  simp only [List.any_eq_true, List.mem_range, Bool.and_eq_true, decide_eq_true_eq]
theorem sel_iff {v w : List Int} {f t : Int} {k : Nat} : sel v w f t k = true ↔ 0 < w.getD k 0 ∧ f ≤ v.getD k 0 ∧ v.getD k 0 < t := by
  unfold sel owns
  simp only [Bool.and_eq_true, decide_eq_true_eq]
theorem sel_cel {v w : List Int} (h : Line v w) {f t c : Int} {k : Nat} (hk : k < w.length) (h1 : pre w k ≤ c) (h2 : c < pre w k + w.getD k 0) : cel v w f t c = sel v w f t k := by
  have h3 := pre_next h.small hk
  rw [cel_at h.small f t hk h1 (by omega)]
  unfold sel
  rw [decide_eq_true (show 0 < w.getD k 0 by omega), Bool.true_and]
theorem has_iff {v w : List Int} {f t : Int} {p n : Nat} : has v w (pre w) f t p n = true ↔ ∃ k, k < n ∧ v.getD k 0 = (p : Int) ∧ 0 < w.getD k 0 ∧ f < t ∧ pre w k < t ∧ f < pre w k + w.getD k 0 := by
  unfold has has1
  simp only [List.any_eq_true, List.mem_range, decide_eq_true_eq]
/-- which places a band has -/
theorem has_band {v w : List Int} (h : Line v w) {f t last : Int} {b : Int × Int} (hl : -1 ≤ last) (h1 : last < b.1) (h2 : b.1 < b.2) (hc : ∀ c, last ≤ c → 0 ≤ c → c < b.2 → cel v w f t c = decide (b.1 ≤ c)) {p : Nat} :
    has v w (pre w) b.1 b.2 p w.length = true ↔ ∃ k, k < w.length ∧ v.getD k 0 = (p : Int) ∧ sel v w f t k = true ∧ last < pre w k ∧ pre w k < b.2 := by
  rw [has_iff]
  constructor
  · rintro ⟨k, k1, k2, k3, k4, k5, k6⟩
    have hp := pre_small h.small k (by omega)
    have hge : b.1 ≤ pre w k := by
      by_cases e : b.1 ≤ pre w k
      · exact e
      · have a1 := hc (b.1 - 1) (by omega) (by omega) (by omega)
        rw [sel_cel h k1 (by omega) (by omega)] at a1
        have a2 := hc b.1 (by omega) (by omega) h2
        rw [sel_cel h k1 (by omega) (by omega)] at a2
        rw [a1] at a2
        have := of_decide_eq_true (a2.trans (decide_eq_true (Int.le_refl b.1)))
        omega
    refine ⟨k, k1, k2, ?_, by omega, k5⟩
    have a := hc (pre w k) (by omega) (by omega) k5
    rw [sel_cel h k1 (Int.le_refl _) (by omega)] at a
    rw [a]
    exact decide_eq_true hge
  · rintro ⟨k, k1, k2, k3, k4, k5⟩
    have hp := pre_small h.small k (by omega)
    have k6 := sel_iff.1 k3
    have a := hc (pre w k) (by omega) (by omega) k5
    rw [sel_cel h k1 (Int.le_refl _) (by omega), k3] at a
    have := of_decide_eq_true a.symm
    exact ⟨k, k1, k2, k6.1, h2, k5, by omega⟩

theorem back_loop {v w : List Int} (h : Line v w) {f t : Int} {bs : List (Int × Int)} (hb : Bands v w f t w.length bs) :
    loopW (fun s : Int × Int × List Int × List Int × List Bool × List (Int × Int) × Int × Int => (law35_SelectsBack_L7 s.1 s.2.1 s.2.2.1 s.2.2.2.1 s.2.2.2.2.1 s.2.2.2.2.2.1 s.2.2.2.2.2.2.1 s.2.2.2.2.2.2.2).run) (f, t, v, w, tab w.length (seen v w f t (-1)), bs, (bs.length : Int), 0) = some (.inl (f, t, v, w, tab w.length (seen v w f t (bend (-1) bs)))) := by
  have hn := h.small.1
  have hlv := h.len
  have hbl := hb.len
  have hloop := loop_ex (L := fun s : Int × Int × List Int × List Int × List Bool × List (Int × Int) × Int × Int => law35_SelectsBack_L7 s.1 s.2.1 s.2.2.1 s.2.2.2.1 s.2.2.2.2.1 s.2.2.2.2.2.1 s.2.2.2.2.2.2.1 s.2.2.2.2.2.2.2)
    (I := fun s => ∃ A B : List (Int × Int), bs = A ++ B ∧ s = (f, t, v, w, tab w.length (seen v w f t (bend (-1) A)), bs, (bs.length : Int), (A.length : Int)))
    (m := fun s => bs.length - s.2.2.2.2.2.2.2.toNat) (R := fun r => r = .inl (f, t, v, w, tab w.length (seen v w f t (bend (-1) bs)))) (s0 := (f, t, v, w, tab w.length (seen v w f t (-1)), bs, (bs.length : Int), 0))
    (by
      rintro s ⟨A, B, e, rfl⟩
      dsimp only
      unfold law35_SelectsBack_L7
      cases B with
      | nil =>
        rw [List.append_nil] at e
        subst e
        exact Post.brF (by simp) (Post.pure rfl)
      | cons b B =>
        have hl : bs.length = A.length + (B.length + 1) := by rw [e]; simp
        have hp2 := hb.pb
        rw [e] at hp2
        have hpp := (Pb_app A (b :: B) (-1)).1 hp2
        have h1 := Pb_le A (-1) hpp.1
        have h3 : bend (-1) A < b.1 := hpp.2.1
        have h4 : b.1 < b.2 := hpp.2.2.1
        have h5 : ∀ c, bend (-1) A ≤ c → 0 ≤ c → c < b.2 → cel v w f t c = decide (b.1 ≤ c) := hpp.2.2.2.1
        have hbA : bend (-1) (A ++ [b]) = b.2 := by rw [bend_app]; rfl
        generalize bend (-1) A = last at *
        have hhas := fun p : Nat => has_band h (f := f) (t := t) (last := last) (b := b) (by omega) h3 h4 h5 (p := p)
        have hpl := places_F v w h.small b.1 b.2 w.length (by omega)
        have hmem := places_mem (fun p => has v w (pre w) b.1 b.2 p w.length) w.length
        have hnd := places_nodup (fun p => has v w (pre w) b.1 b.2 p w.length) w.length
        have hpn := places_len (fun p => has v w (pre w) b.1 b.2 p w.length) w.length
        generalize places (fun p => has v w (pre w) b.1 b.2 p w.length) w.length = ps at hpl hmem hnd hpn
        have hin := loop_ex (L := fun s : Int × Int × List Int × List Int × List Bool × List (Int × Int) × Int × Int × List Int × Int × Int => law35_SelectsBack_L10 s.1 s.2.1 s.2.2.1 s.2.2.2.1 s.2.2.2.2.1 s.2.2.2.2.2.1 s.2.2.2.2.2.2.1 s.2.2.2.2.2.2.2.1 s.2.2.2.2.2.2.2.2.1 s.2.2.2.2.2.2.2.2.2.1 s.2.2.2.2.2.2.2.2.2.2)
          (I := fun s => ∃ P Q : List Int, ps = P ++ Q ∧ s = (f, t, v, w, tab w.length (fun p => seen v w f t last p || decide ((p : Int) ∈ P)), bs, (bs.length : Int), (A.length : Int), ps, (ps.length : Int), (P.length : Int)))
          (m := fun s => ps.length - s.2.2.2.2.2.2.2.2.2.2.toNat) (R := fun r => r = .inl (f, t, v, w, tab w.length (fun p => seen v w f t last p || decide ((p : Int) ∈ ps)), bs, (bs.length : Int), (A.length : Int)))
          (s0 := (f, t, v, w, tab w.length (seen v w f t last), bs, (bs.length : Int), (A.length : Int), ps, (ps.length : Int), 0))
          (by
            rintro s ⟨P, Q, e2, rfl⟩
            dsimp only
            unfold law35_SelectsBack_L10
            cases Q with
            | nil =>
              rw [List.append_nil] at e2
              subst e2
              exact Post.brF (by simp) (Post.pure rfl)
            | cons x Q =>
              have hl2 : ps.length = P.length + (Q.length + 1) := by rw [e2]; simp
              obtain ⟨q, q1, q2, q3⟩ := (hmem x).1 (by rw [e2]; simp)
              obtain ⟨k, k1, k2, k3, k4, k5⟩ := (hhas q).1 q3
              have k6 := sel_iff.1 k3
              have hxP : x ∉ P := by
                intro hx
                rw [e2, List.nodup_append] at hnd
                exact hnd.2.2 x hx x (by simp) rfl
              have hns : (seen v w f t last q || decide ((q : Int) ∈ P)) = false := by
                rw [Bool.or_eq_false_iff]
                constructor
                · rw [Bool.eq_false_iff]
                  intro hs
                  obtain ⟨k', g1, g2, g3, g4⟩ := seen_iff.1 hs
                  have := h.inj k1 g1 (by omega)
                  subst this
                  omega
                · exact decide_eq_false (by rw [← q2]; exact hxP)
              refine Post.brT (by rw [decide_eq_true_eq]; omega) (Post.bnd (show idx ps (P.length : Int) = some x by rw [e2]; exact idxm rfl) ?_)
              refine Post.brF (by rw [decide_eq_false_iff_not]; omega) (Post.brF (by rw [decide_eq_false_iff_not, tab_len]; omega) (ptab q q2 q1 (Post.brF hns ?_)))
              refine Post.brF (by rw [decide_eq_false_iff_not]; omega) (Post.brF (by rw [decide_eq_false_iff_not]; omega) (ptab q q2 q1 (Post.pure ⟨⟨P ++ [x], Q, by rw [e2]; simp, ?_⟩, ?_⟩)))
              · rw [q2, toNat_nat, tab_set, wrap_succ (by omega), List.length_append, List.length_singleton]
                congr 5
                refine tab_congr fun p _ => ?_
                by_cases ep : p = q
                · subst ep; simp
                · have hpq : ¬ (p : Int) = (q : Int) := by omega
                  have hm : ((p : Int) ∈ P ++ [(q : Int)]) ↔ (p : Int) ∈ P := by
                    rw [List.mem_append, List.mem_singleton]
                    exact ⟨fun h => h.resolve_right hpq, .inl⟩
                  rw [if_neg ep, decide_eq_decide.2 hm]
              · dsimp only
                rw [wrap_succ (by omega)]
                omega)
          ⟨[], ps, rfl, by simp⟩
        obtain ⟨r, hr, rfl⟩ := hin
        refine Post.brT (by rw [decide_eq_true_eq]; omega) (Post.bnd (show idx bs (A.length : Int) = some b by rw [e]; exact idxm rfl) ?_)
        refine Post.bnd (b := b) rfl (Post.bnd (b := b) rfl (Post.bnd hpl (Post.altL hr (Post.pure ⟨⟨A ++ [b], B, by rw [e]; simp, ?_⟩, ?_⟩))))
        · dsimp only
          rw [wrap_succ (by omega), hbA, List.length_append, List.length_singleton]
          congr 5
          refine tab_congr fun p hp => ?_
          rw [Bool.eq_iff_iff, Bool.or_eq_true, decide_eq_true_eq, seen_iff, seen_iff, hmem]
          constructor
          · rintro (⟨k, g1, g2, g3, g4⟩ | ⟨q, q1, q2, q3⟩)
            · exact ⟨k, g1, g2, g3, by omega⟩
            · have : p = q := by omega
              subst this
              obtain ⟨k, g1, g2, g3, g4, g5⟩ := (hhas p).1 q3
              exact ⟨k, g1, g2, g3, g5⟩
          · rintro ⟨k, g1, g2, g3, g4⟩
            by_cases g : pre w k < last
            · exact .inl ⟨k, g1, g2, g3, g⟩
            · refine .inr ⟨p, hp, rfl, (hhas p).2 ⟨k, g1, g2, g3, ?_, g4⟩⟩
              have hpk := pre_small h.small k (by omega)
              have g6 := sel_iff.1 g3
              have a := h5 (pre w k) (by omega) (by omega) g4
              rw [sel_cel h g1 (Int.le_refl _) (by omega), g3] at a
              have := of_decide_eq_true a.symm
              omega
        · dsimp only
          rw [wrap_succ (by omega)]
          omega)
    ⟨[], bs, rfl, rfl⟩
  obtain ⟨r, hr, rfl⟩ := hloop
  exact hr

theorem countP_tab (b : Nat → Bool) (n : Nat) : (List.range (n + 1)).countP b = (List.range n).countP b + (if b n = true then 1 else 0) := by
  rw [List.range_succ, List.countP_append, List.countP_singleton]
theorem countP_le (b : Nat → Bool) (n : Nat) : (List.range n).countP b ≤ n := by
  have := List.countP_le_length (p := b) (l := List.range n)
  simpa using this
theorem countP_perm {v w : List Int} (h : Line v w) (g b : Nat → Bool) (hg : ∀ k, k < w.length → g (v.getD k 0).toNat = b k) : (List.range w.length).countP g = (List.range w.length).countP b := by
  have h1 := h.perm.countP_eq (fun x => g x.toNat)
  have e : v = tab w.length fun k => v.getD k 0 := by rw [← h.len]; exact tab_self 0 v
  have h2 : v.countP (fun x => g x.toNat) = (List.range w.length).countP b := by
    rw [e]
    unfold tab
    rw [List.countP_map]
    refine List.countP_congr fun k hk => ?_
    rw [List.mem_range] at hk
    simp only [Function.comp_apply]
    rw [hg k hk]
  unfold tab at h1
  rw [List.countP_map, h2] at h1
  rw [h1]
  rfl

theorem selectsBack_F (ls ws : List Int) (f t : Int) (hn : ls.length ≤ 2097152) (h8 : ∀ n ∈ ls, 0 ≤ n ∧ n ≤ 255) (hn2 : ws.length ≤ 2097152) (h82 : ∀ n ∈ ws, 0 ≤ n ∧ n ≤ 255) : law35_SelectsBack_F ls ws f t = some true := by
  obtain ⟨v, w, hline, h⟩ := line_F ls ws hn h8 hn2 h82
  obtain ⟨bs, hbs, hb⟩ := bands_F h f t
  have hlv := h.len
  have hwn := h.small.1
  have hloop := back_loop h hb
  have h0 : seen v w f t (-1) = fun _ => false := funext fun p => by
    rw [Bool.eq_false_iff]
    intro hs
    obtain ⟨k, k1, k2, k3, k4⟩ := seen_iff.1 hs
    have := pre_small h.small k (by omega)
    omega
  rw [h0, ← tab_rep] at hloop
  have hall : ∀ k, k < w.length → sel v w f t k = true → pre w k < bend (-1) bs := fun k hk hs => by
    by_cases e : pre w k < bend (-1) bs
    · exact e
    · have hp := pre_small h.small k (by omega)
      have hs2 := sel_iff.1 hs
      have hx := pre_next h.small hk
      have hm := pre_mono h.small (i := k + 1) (j := w.length) (by omega) (by omega)
      have a := hb.rest (pre w k) (by omega) hp.1 (by omega)
      rw [sel_cel h hk (Int.le_refl _) (by omega), hs] at a
      cases a
  unfold law35_SelectsBack_F law35_SelectsBack_T
  refine Post.run (Post.bnd awake35 (Post.brF (by rfl) (Post.bnd hline (Post.bnd (mk_eq (k := v.length) rfl (by omega)) (Post.bnd hbs ?_)))))
  dsimp only
  rw [hlv]
  refine Post.altL hloop ?_
  dsimp only
  have hcp := countP_le (sel v w f t)
  refine Post.altL (b := (((tab w.length id).filter (sel v w f t)).map (fun k => v.getD k 0), tab w.length (seen v w f t (bend (-1) bs)))) (count (L := fun s : Int × Int × List Int × List Int × List Bool × List Int × Int × Int => law35_SelectsBack_L18 s.1 s.2.1 s.2.2.1 s.2.2.2.1 s.2.2.2.2.1 s.2.2.2.2.2.1 s.2.2.2.2.2.2.1 s.2.2.2.2.2.2.2) w.length (fun k => (f, t, w, (((tab k id).filter (sel v w f t)).map (fun k => v.getD k 0)), tab w.length (seen v w f t (bend (-1) bs)), v, (v.length : Int), (k : Int))) rfl (fun k hk => ?_) ?_) ?_
  · dsimp only
    have hm := h.mem hk
    obtain ⟨q, hq⟩ : ∃ q : Nat, v.getD k 0 = (q : Int) := ⟨(v.getD k 0).toNat, by omega⟩
    have hlen : (((tab k id).filter (sel v w f t)).map (fun k => v.getD k 0)).length ≤ k := by
      rw [List.length_map]
      exact Nat.le_trans (List.length_filter_le _ _) (by rw [tab_len]; exact Nat.le_refl _)
    unfold law35_SelectsBack_L18
    refine Post.brT (by rw [decide_eq_true_eq]; omega) (Post.idx 0 k rfl (by omega) (Post.idx 0 k rfl hk ?_))
    rw [wrap_succ (by omega), ← tab_succ, List.filter_append, List.map_append]
    have no : sel v w f t k = false → ([id k].filter (sel v w f t)).map (fun k => v.getD k 0) = [] := fun e => by
      rw [List.filter_eq_nil_iff.2 (fun a ha => by rw [List.mem_singleton] at ha; rw [ha, show id k = k from rfl, e]; decide)]
      rfl
    refine Post.br (fun c1 => ?_) (fun c1 => ?_)
    · rw [decide_eq_true_eq] at c1
      refine Post.br (fun c2 => ?_) (fun c2 => ?_)
      · rw [decide_eq_true_eq] at c2
        refine Post.br (fun c3 => ?_) (fun c3 => ?_)
        · rw [decide_eq_true_eq] at c3
          have hs : sel v w f t k = true := sel_iff.2 ⟨c1, c2, c3⟩
          have hsn : seen v w f t (bend (-1) bs) q = true := seen_iff.2 ⟨k, hk, hq, hs, hall k hk hs⟩
          refine Post.bnd (app_eq (by simp only [List.length_cons, List.length_nil]; omega)) (ptab q hq (by omega) (Post.brF (by rw [hsn]; rfl) (Post.pure ?_)))
          rw [List.filter_eq_self.2 (show ∀ a ∈ [id k], sel v w f t a = true from fun a ha => by rw [List.mem_singleton] at ha; rw [ha]; exact hs)]
          rfl
        · rw [decide_eq_false_iff_not] at c3
          refine Post.pure ?_
          rw [no (by rw [Bool.eq_false_iff]; intro hs; have := sel_iff.1 hs; omega), List.append_nil]
      · rw [decide_eq_false_iff_not] at c2
        refine Post.pure ?_
        rw [no (by rw [Bool.eq_false_iff]; intro hs; have := sel_iff.1 hs; omega), List.append_nil]
    · rw [decide_eq_false_iff_not] at c1
      refine Post.pure ?_
      rw [no (by rw [Bool.eq_false_iff]; intro hs; have := sel_iff.1 hs; omega), List.append_nil]
  · dsimp only
    unfold law35_SelectsBack_L18
    exact Post.brF (by rw [decide_eq_false_iff_not]; omega) (Post.pure rfl)
  · dsimp only
    generalize hW : (((tab w.length id).filter (sel v w f t)).map (fun k => v.getD k 0)) = W
    have hWl : W.length = (List.range w.length).countP (sel v w f t) := by
      rw [← hW, List.length_map, ← List.countP_eq_length_filter]
      unfold tab
      rw [List.map_id]
    have hcl := countP_le (seen v w f t (bend (-1) bs))
    refine Post.bnd (count (L := fun s : List Int × Int × List Bool × Int × Int => law35_SelectsBack_L27 s.1 s.2.1 s.2.2.1 s.2.2.2.1 s.2.2.2.2) w.length (fun k => (W, (((List.range k).countP (seen v w f t (bend (-1) bs)) : Nat) : Int), tab w.length (seen v w f t (bend (-1) bs)), (w.length : Int), (k : Int))) (r := (W, (((List.range w.length).countP (seen v w f t (bend (-1) bs)) : Nat) : Int))) ?_ (fun k hk => ?_) ?_) (Post.pure ?_)
    · rw [tab_len]; rfl
    · dsimp only
      have := hcl k
      unfold law35_SelectsBack_L27
      refine Post.brT (by rw [decide_eq_true_eq]; omega) (ptab k rfl hk ?_)
      rw [wrap_succ (k := k) (by omega), wrap_succ (k := (List.range k).countP (seen v w f t (bend (-1) bs))) (by omega), countP_tab]
      refine Post.br (fun hc => Post.pure ?_) (fun hc => Post.pure ?_)
      · rw [if_pos hc]
      · rw [if_neg (by rw [hc]; decide)]
        rfl
    · dsimp only
      unfold law35_SelectsBack_L27
      exact Post.brF (by simp) (Post.pure rfl)
    · dsimp only
      rw [hWl, countP_perm h (seen v w f t (bend (-1) bs)) (sel v w f t) (fun k hk => ?_)]
      · simp
      · have hm := h.mem hk
        rw [Bool.eq_iff_iff, seen_iff]
        constructor
        · rintro ⟨k', g1, g2, g3, g4⟩
          have := h.inj hk g1 (by omega)
          subst this
          exact g3
        · exact fun hs => ⟨k, hk, by omega, hs, hall k hk hs⟩

theorem selectsBack_all (x : Tys.I [.sl (.int .u8), .sl (.int .u8), .int .i64, .int .i64]) (h : WfAll [.sl (.int .u8), .sl (.int .u8), .int .i64, .int .i64] x) (hb : bulkAll [.sl (.int .u8), .sl (.int .u8), .int .i64, .int .i64] x ≤ 1048576) :
    law35_SelectsBack_F x.1 x.2.1 x.2.2.1 x.2.2.2.1 = some true := by
  simp only [bulkAll, bulk] at hb
  exact selectsBack_F _ _ _ _ (by omega) (fun n hn => wf_u8 (h.1.2 n hn)) (by omega) (fun n hn => wf_u8 (h.2.1.2 n hn))

end Go.Proofs.Ytiijkbdffbjehaa
