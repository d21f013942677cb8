/-
  The laws of neutrals: what brackets become depends on the level's side alone.
-/
import Derived.Test.YtaahkcepdgmagaaDoorLawNeuA
namespace Go.Proofs.YtaahkcepdgmagaaDoor
set_option linter.all false

theorem inside_any (cs : List Int) (e : Int) (hn : cs.length ≤ 4194304) : ∃ v, neutral_inside_F cs e = some v := by
  unfold neutral_inside_F neutral_inside_T
  obtain ⟨z, hz, _⟩ := loop_ex (L := fun s : Int × Int × List Int × Int × Int => neutral_inside_L3 s.1 s.2.1 s.2.2.1 s.2.2.2.1 s.2.2.2.2)
    (I := fun s => ∃ (f : Int) (k : Nat), k ≤ cs.length ∧ s = (e, f, cs, (cs.length : Int), (k : Int))) (m := fun s => cs.length - s.2.2.2.2.toNat) (R := fun _ => True) (s0 := (e, 13, cs, (cs.length : Int), 0))
    (by
      rintro s ⟨f, k, hk, rfl⟩
      dsimp only
      unfold neutral_inside_L3
      refine Post.br (fun c => ?_) (fun _ => Post.pure trivial)
      have c := of_decide_eq_true c
      refine Post.idx 0 k rfl (by omega) (Post.bnd (dir_F _) (Post.br (fun _ => Post.pure trivial) (fun _ => Post.br (fun _ => Post.pure ?_) (fun _ => Post.pure ?_))))
      · rw [wrap_succ (by omega)]; exact ⟨⟨_, k + 1, by omega, rfl⟩, by dsimp only; omega⟩
      · rw [wrap_succ (by omega)]; exact ⟨⟨_, k + 1, by omega, rfl⟩, by dsimp only; omega⟩)
    ⟨13, 0, by omega, rfl⟩
  cases z with
  | inl z => exact ⟨z, Post.run (Post.altL hz (Post.pure rfl))⟩
  | inr z => exact ⟨z, Post.run (Post.altR hz (Post.pure rfl))⟩
theorem before_any (cs : List Int) (sos : Int) (hn : cs.length ≤ 4194304) : ∃ v, neutral_before_F cs sos = some v := by
  unfold neutral_before_F neutral_before_T
  rw [wrap64 (n := (cs.length : Int) - 1) (by omega) (by omega)]
  obtain ⟨z, hz, _⟩ := loop_ex (L := fun s : List Int × Int × Int => neutral_before_L2 s.1 s.2.1 s.2.2)
    (I := fun s => ∃ k : Nat, k ≤ cs.length ∧ s = (cs, sos, (k : Int) - 1)) (m := fun s => (s.2.2 + 1).toNat) (R := fun _ => True) (s0 := (cs, sos, (cs.length : Int) - 1))
    (by
      rintro s ⟨k, hk, rfl⟩
      dsimp only
      unfold neutral_before_L2
      refine Post.br (fun c => ?_) (fun _ => Post.pure trivial)
      have c := of_decide_eq_true c
      refine Post.idx 0 (k - 1) (by omega) (by omega) (Post.bnd (dir_F _) (Post.br (fun _ => Post.pure trivial) (fun _ => Post.pure ?_)))
      have : IntKind.i64.wrap ((k : Int) - 1 - 1) = ((k - 1 : Nat) : Int) - 1 := by rw [wrap64 (by omega) (by omega)]; omega
      rw [this]
      exact ⟨⟨k - 1, by omega, rfl⟩, by dsimp only; omega⟩)
    ⟨cs.length, Nat.le_refl _, rfl⟩
  cases z with
  | inl z => exact ⟨z, Post.run (Post.altL hz (Post.pure rfl))⟩
  | inr z => exact ⟨z, Post.run (Post.altR hz (Post.pure rfl))⟩
theorem turn_any (cs first : List Int) {p : Nat} (d : Int) (hp : p < cs.length) (hf : first.length = cs.length) (hn : cs.length ≤ 4194304) : ∃ r, neutral_turn_F cs first (p : Int) d = some (r, ()) ∧ r.length = cs.length := by
  unfold neutral_turn_F neutral_turn_T
  rw [wrap_succ (by omega)]
  obtain ⟨z, hz, h⟩ := loop_ex (L := fun s : List Int × List Int × Int × Int => neutral_turn_L2 s.1 s.2.1 s.2.2.1 s.2.2.2)
    (I := fun s => ∃ (xs : List Int) (k : Nat), k ≤ cs.length ∧ xs.length = cs.length ∧ s = (xs, first, d, (k : Int))) (m := fun s => cs.length - s.2.2.2.toNat) (R := fun z => z.length = cs.length) (s0 := (cs.set (Int.toNat (p : Int)) d, first, d, ((p + 1 : Nat) : Int)))
    (by
      rintro s ⟨xs, k, hk, hx, rfl⟩
      dsimp only
      unfold neutral_turn_L2
      refine Post.br (fun c => ?_) (fun _ => Post.pure hx)
      have c := of_decide_eq_true c
      refine Post.idx 0 k rfl (by omega) (Post.br (fun _ => Post.idx 0 k rfl (by omega) (Post.idx 0 k rfl (by omega) (Post.pure ?_))) (fun _ => Post.pure hx))
      rw [wrap_succ (by omega)]
      exact ⟨⟨_, k + 1, by omega, by rw [List.length_set]; exact hx, rfl⟩, by dsimp only; omega⟩)
    ⟨_, p + 1, by omega, by rw [List.length_set], rfl⟩
  exact ⟨z, Post.run (Post.idx 0 p rfl hp (Post.idx 0 p rfl hp (Post.bnd hz (Post.pure rfl)))), h⟩

/-! ### pairs -/
theorem find_any (st : List (Int × Int)) (kn : Int) (hn : st.length ≤ 4194304) : ∃ v, pairs_find_F st kn = some v ∧ (v < 0 ∨ ∃ k : Nat, v = (k : Int) ∧ k < st.length) := by
  unfold pairs_find_F pairs_find_T
  rw [wrap64 (n := (st.length : Int) - 1) (by omega) (by omega)]
  obtain ⟨z, hz, h⟩ := loop_ex (L := fun s : List (Int × Int) × Int × Int => pairs_find_L2 s.1 s.2.1 s.2.2)
    (I := fun s => ∃ k : Nat, k ≤ st.length ∧ s = (st, kn, (k : Int) - 1)) (m := fun s => (s.2.2 + 1).toNat) (R := fun z => z = .inl () ∨ ∃ k : Nat, z = .inr (k : Int) ∧ k < st.length) (s0 := (st, kn, (st.length : Int) - 1))
    (by
      rintro s ⟨k, hk, rfl⟩
      dsimp only
      unfold pairs_find_L2
      refine Post.br (fun c => ?_) (fun _ => Post.pure (.inl rfl))
      have c := of_decide_eq_true c
      have hk1 : (k : Int) - 1 = ((k - 1 : Nat) : Int) := by omega
      rw [hk1]
      refine Post.bnd (idx_get (k := k - 1) rfl (by omega)) (Post.br (fun _ => Post.pure (.inr ⟨k - 1, rfl, by omega⟩)) (fun _ => Post.pure ?_))
      have : IntKind.i64.wrap (((k - 1 : Nat) : Int) - 1) = ((k - 1 : Nat) : Int) - 1 := by rw [wrap64 (by omega) (by omega)]
      rw [this]
      exact ⟨⟨k - 1, by omega, rfl⟩, by dsimp only; omega⟩)
    ⟨st.length, Nat.le_refl _, rfl⟩
  rcases h with rfl | ⟨k, rfl, hk⟩
  · exact ⟨-1, Post.run (Post.altL hz (Post.pure rfl)), .inl (by omega)⟩
  · exact ⟨(k : Int), Post.run (Post.altR hz (Post.pure rfl)), .inr ⟨k, rfl, hk⟩⟩
def Cl (n : Nat) (c : List Int) : Prop := c.length = n ∧ ∀ i, i < n → c.getD i 0 = 0 ∨ ((i : Int) < c.getD i 0 ∧ c.getD i 0 < n)
theorem closings_any (rs cs : List Int) {n : Nat} (h1 : rs.length = n) (h2 : cs.length = n) (hn : n ≤ 4194304) : ∃ c, pairs_closings_F rs cs = some c ∧ Cl n c := by
  unfold pairs_closings_F pairs_closings_T
  rw [h1, h2, if_neg (by omega)]
  obtain ⟨z, hz, h⟩ := loop_ex (L := fun s : List Int × List Int × List Int × (List (Int × Int)) × Int × Int => pairs_closings_L5 s.1 s.2.1 s.2.2.1 s.2.2.2.1 s.2.2.2.2.1 s.2.2.2.2.2)
    (I := fun s => ∃ (c : List Int) (st : List (Int × Int)) (t : Nat), t ≤ n ∧ Cl n c ∧ st.length ≤ t ∧ (∀ q ∈ st, 0 ≤ q.1 ∧ q.1 < t) ∧ s = (rs, cs, c, st, (n : Int), (t : Int))) (m := fun s => n - s.2.2.2.2.2.toNat) (R := fun z => (∃ c, z = .inl c ∧ Cl n c) ∨ ∃ c, z = .inr c ∧ Cl n c) (s0 := (rs, cs, List.replicate n 0, [], (n : Int), 0))
    (by
      rintro s ⟨c, st, t, ht, hc, hl, hq, rfl⟩
      dsimp only
      unfold pairs_closings_L5
      refine Post.br (fun c1 => ?_) (fun _ => Post.pure (.inl ⟨c, rfl, hc⟩))
      have c1 := of_decide_eq_true c1
      have next : ∀ {c' : List Int} {st' : List (Int × Int)}, Cl n c' → st'.length ≤ t + 1 → (∀ q ∈ st', 0 ≤ q.1 ∧ q.1 < ((t + 1 : Nat) : Int)) →
          (∃ (c : List Int) (st : List (Int × Int)) (t' : Nat), t' ≤ n ∧ Cl n c ∧ st.length ≤ t' ∧ (∀ q ∈ st, 0 ≤ q.1 ∧ q.1 < (t' : Int)) ∧ (rs, cs, c', st', (n : Int), ((t + 1 : Nat) : Int)) = (rs, cs, c, st, (n : Int), (t' : Int))) ∧ n - ((t + 1 : Nat) : Int).toNat < n - (t : Int).toNat := fun a b d =>
        ⟨⟨_, _, t + 1, by omega, a, b, d, rfl⟩, by omega⟩
      have hq' : ∀ q ∈ st, 0 ≤ q.1 ∧ q.1 < ((t + 1 : Nat) : Int) := fun q h => by have := hq q h; omega
      rw [wrap_succ (k := t) (by omega)]
      refine Post.idx 0 t rfl (by omega) (Post.br (fun _ => Post.pure (next hc (by omega) hq')) (fun _ => Post.idx 0 t rfl (by omega) (Post.bnd (brack_F _) (Post.br (fun _ => Post.br (fun _ => Post.pure (.inr ⟨c, rfl, hc⟩)) (fun _ => ?_)) (fun _ => Post.br (fun _ => ?_) (fun _ => Post.pure (next hc (by omega) hq')))))))
      · refine Post.bnd (app_eq (by simp only [List.length_singleton]; omega)) (Post.pure (next hc (by rw [List.length_append, List.length_singleton]; omega) fun q h => ?_))
        rcases List.mem_append.1 h with h | h
        · exact hq' q h
        · rw [List.mem_singleton.1 h]; dsimp only; omega
      · obtain ⟨v, hv, hv2⟩ := find_any st (brV (rs.getD t 0)).2 (by omega)
        refine Post.bnd hv (Post.br (fun c2 => ?_) (fun _ => Post.pure (next hc (by omega) hq')))
        have c2 := of_decide_eq_true c2
        rcases hv2 with hv2 | ⟨k, rfl, hk⟩
        · omega
        · have hm := hq st[k] (List.getElem_mem hk)
          refine Post.bnd (idx_get (k := k) rfl hk) (Post.idx 0 st[k].1.toNat (by omega) (by rw [hc.1]; omega) (Post.bnd (cut_take (n := k) rfl (by omega)) (Post.pure (next ⟨by rw [List.length_set]; exact hc.1, fun i hi => ?_⟩ (by rw [List.length_take]; omega) fun q h => hq' q (List.mem_of_mem_take h)))))
          simp only [List.getD, List.getElem?_set]
          by_cases e : st[k].1.toNat = i
          · rw [if_pos e, if_pos (by rw [hc.1]; omega)]
            right
            simp only [Option.getD_some]
            omega
          · rw [if_neg e]; exact hc.2 i hi)
    ⟨List.replicate n 0, [], 0, by omega, ⟨List.length_replicate .., fun i hi => .inl (by simp [List.getD, hi])⟩, Nat.le_refl _, (fun q h => by cases h), rfl⟩
  rcases h with ⟨c, rfl, hc⟩ | ⟨c, rfl, hc⟩
  · exact ⟨c, Post.run (Post.bnd (mk_eq (k := n) rfl (by omega)) (Post.altL hz (Post.pure rfl))), hc⟩
  · exact ⟨c, Post.run (Post.bnd (mk_eq (k := n) rfl (by omega)) (Post.altR hz (Post.pure rfl))), hc⟩
def Prs (n : Nat) (ps : List (Int × Int)) : Prop := ∀ q ∈ ps, 0 ≤ q.1 ∧ q.1 < q.2 ∧ q.2 < n
theorem pairs_any (rs cs : List Int) {n : Nat} (h1 : rs.length = n) (h2 : cs.length = n) (hn : n ≤ 4194304) : ∃ ps, pairs_Of_F rs cs = some ps ∧ Prs n ps ∧ ps.length ≤ n := by
  obtain ⟨c, hc, hl, hcl⟩ := closings_any rs cs h1 h2 hn
  unfold pairs_Of_F pairs_Of_T
  obtain ⟨z, hz, h⟩ := loop_ex (L := fun s : List (Int × Int) × List Int × Int × Int => pairs_Of_L4 s.1 s.2.1 s.2.2.1 s.2.2.2)
    (I := fun s => ∃ (ps : List (Int × Int)) (t : Nat), t ≤ n ∧ Prs n ps ∧ ps.length ≤ t ∧ s = (ps, c, (n : Int), (t : Int))) (m := fun s => n - s.2.2.2.toNat) (R := fun z => Prs n z ∧ z.length ≤ n) (s0 := ([], c, (n : Int), 0))
    (by
      rintro s ⟨ps, t, ht, hp, hpl, rfl⟩
      dsimp only
      unfold pairs_Of_L4
      refine Post.br (fun c1 => ?_) (fun _ => Post.pure ⟨hp, by omega⟩)
      have c1 := of_decide_eq_true c1
      rw [wrap_succ (k := t) (by omega)]
      have h0 := hcl t (by omega)
      refine Post.idx 0 t rfl (by omega) (Post.br (fun c2 => Post.bnd (app_eq (by simp only [List.length_singleton]; omega)) (Post.pure ⟨⟨_, t + 1, by omega, fun q h => ?_, by rw [List.length_append, List.length_singleton]; omega, rfl⟩, by dsimp only; omega⟩)) (fun _ => Post.pure ⟨⟨ps, t + 1, by omega, hp, by omega, rfl⟩, by dsimp only; omega⟩))
      have c2 := of_decide_eq_true c2
      rcases List.mem_append.1 h with h | h
      · exact hp q h
      · rw [List.mem_singleton.1 h]
        dsimp only
        omega)
    ⟨[], 0, by omega, (fun q h => by cases h), Nat.le_refl _, rfl⟩
  refine ⟨z, Post.run (Post.bnd hc ?_), h⟩
  rw [hl]
  exact Post.bnd hz (Post.pure rfl)

/-! ### brackets -/
theorem step_any (first : List Int) (sos e : Int) {n : Nat} (hf : first.length = n) (hn : n ≤ 4194304) {ps : List (Int × Int)} (hp : Prs n ps) {k : Nat} (hk : k < ps.length) (hkn : ps.length ≤ n) (out : List Int) (ho : out.length = n) :
    ∃ out', out'.length = n ∧ ∀ l, emb l = e → Post (neutral_Brackets_L5 first l sos out ps (ps.length : Int) (k : Int)) (· = .next (first, l, sos, out', ps, (ps.length : Int), ((k + 1 : Nat) : Int))) := by
  have hq := hp ps[k] (List.getElem_mem hk)
  have hcut : cut out (IntKind.i64.wrap (ps[k].1 + 1)) ps[k].2 = some ((out.take ps[k].2.toNat).drop (ps[k].1.toNat + 1)) := cut_drop (by rw [wrap64 (by omega) (by omega)]; omega) (by omega) (by omega) (by omega)
  obtain ⟨v, hv⟩ := inside_any ((out.take ps[k].2.toNat).drop (ps[k].1.toNat + 1)) e (by rw [List.length_drop, List.length_take]; omega)
  have hx : idx ps (k : Int) = some ps[k] := idx_get rfl hk
  have e1 : ps[k].1 = ((ps[k].1.toNat : Nat) : Int) := by omega
  have e2 : ps[k].2 = ((ps[k].2.toNat : Nat) : Int) := by omega
  have turns : ∀ d, ∃ a b : List Int, b.length = n ∧ neutral_turn_F out first ps[k].1 d = some (a, ()) ∧ neutral_turn_F a first ps[k].2 d = some (b, ()) := fun d => by
    obtain ⟨a, ha, hal⟩ := turn_any out first (p := ps[k].1.toNat) d (by omega) (by omega) (by omega)
    obtain ⟨b, hb, hbl⟩ := turn_any a first (p := ps[k].2.toNat) d (by omega) (by omega) (by omega)
    rw [← e1] at ha
    rw [← e2] at hb
    exact ⟨a, b, by omega, ha, hb⟩
  have hw : IntKind.i64.wrap ((k : Int) + 1) = ((k + 1 : Nat) : Int) := wrap_succ (by omega)
  by_cases c1 : v = 13
  · refine ⟨out, ho, fun l hl => ?_⟩
    unfold neutral_Brackets_L5
    rw [hw]
    refine Post.brT (decide_eq_true (by omega)) (Post.bnd hx (post_box (post_box (Post.bnd hcut (Post.bnd (level_F l) ?_)))))
    rw [hl]
    exact Post.bnd hv (Post.brT (by simpa using c1) (Post.pure rfl))
  · by_cases c2 : v = e
    · obtain ⟨a, b, hb, ta, tb⟩ := turns v
      refine ⟨b, hb, fun l hl => ?_⟩
      unfold neutral_Brackets_L5
      rw [hw]
      refine Post.brT (decide_eq_true (by omega)) (Post.bnd hx (post_box (post_box (Post.bnd hcut (Post.bnd (level_F l) ?_)))))
      rw [hl]
      refine Post.bnd hv (Post.brF (by simpa using c1) (Post.bnd (level_F l) ?_))
      rw [hl]
      exact Post.brF (by simpa using c2) (post_box (Post.bnd ta (post_box (Post.bnd tb (Post.pure rfl)))))
    · have hcut2 : cut out 0 ps[k].1 = some (out.take ps[k].1.toNat) := cut_take (by omega) (by omega)
      obtain ⟨u, hu⟩ := before_any (out.take ps[k].1.toNat) sos (by rw [List.length_take]; omega)
      obtain ⟨a, b, hb, ta, tb⟩ := turns u
      refine ⟨b, hb, fun l hl => ?_⟩
      unfold neutral_Brackets_L5
      rw [hw]
      refine Post.brT (decide_eq_true (by omega)) (Post.bnd hx (post_box (post_box (Post.bnd hcut (Post.bnd (level_F l) ?_)))))
      rw [hl]
      refine Post.bnd hv (Post.brF (by simpa using c1) (Post.bnd (level_F l) ?_))
      rw [hl]
      exact Post.brT (by simpa using c2) (post_box (Post.bnd hcut2 (Post.bnd hu (post_box (Post.bnd ta (post_box (Post.bnd tb (Post.pure rfl))))))))
theorem loop_any (first : List Int) (sos e : Int) {n : Nat} (hf : first.length = n) (hn : n ≤ 4194304) {ps : List (Int × Int)} (hp : Prs n ps) (hkn : ps.length ≤ n) : ∀ (d k : Nat) (out : List Int), ps.length = k + d → out.length = n →
    ∃ r, r.length = n ∧ ∀ l, emb l = e → loopW (fun s : List Int × Int × Int × List Int × (List (Int × Int)) × Int × Int => (neutral_Brackets_L5 s.1 s.2.1 s.2.2.1 s.2.2.2.1 s.2.2.2.2.1 s.2.2.2.2.2.1 s.2.2.2.2.2.2).run) (first, l, sos, out, ps, (ps.length : Int), (k : Int)) = some r
  | 0, k, out, h, ho => ⟨out, ho, fun l _ => loopW_done (Post.run (by
      dsimp only
      unfold neutral_Brackets_L5
      exact Post.brF (decide_eq_false (by omega)) (Post.pure rfl)))⟩
  | d + 1, k, out, h, ho => by
    obtain ⟨out', ho', hs⟩ := step_any first sos e hf hn hp (k := k) (by omega) hkn out ho
    obtain ⟨r, hr, hl⟩ := loop_any first sos e hf hn hp hkn d (k + 1) out' (by omega) ho'
    exact ⟨r, hr, fun l he => loopW_next (Post.run (hs l he)) (hl l he)⟩
theorem brackets_any (rs first cs : List Int) (sos e : Int) {n : Nat} (h1 : rs.length = n) (h2 : first.length = n) (h3 : cs.length = n) (hn : n ≤ 4194304) : ∃ r, r.length = n ∧ ∀ l, emb l = e → neutral_Brackets_F rs first cs l sos = some r := by
  obtain ⟨ps, hps, hp, hpl⟩ := pairs_any rs cs h1 h3 hn
  obtain ⟨r, hr, hl⟩ := loop_any first sos e h2 hn hp hpl ps.length 0 cs (by omega) h3
  refine ⟨r, hr, fun l he => ?_⟩
  unfold neutral_Brackets_F neutral_Brackets_T
  exact Post.run (Post.bnd (clone_F cs (by omega)) (Post.brF (by rw [h1, h3]; simp) (Post.brF (by rw [h2, h3]; simp) (Post.bnd hps (Post.bnd (hl l he) (Post.pure rfl))))))

/-! ### NeutralTwo -/
theorem ints_any (cs : List Int) (hn : cs.length ≤ 4194304) : law10_Ints_F cs = some (tab cs.length fun i => IntKind.i64.wrap (cs.getD i 0)) := by
  unfold law10_Ints_F law10_Ints_T
  refine Post.run (Post.bnd (count (L := fun s : List Int × List Int × Int × Int => law10_Ints_L3 s.1 s.2.1 s.2.2.1 s.2.2.2) cs.length (fun k => (tab k (fun i => IntKind.i64.wrap (cs.getD i 0)), cs, (cs.length : Int), ((k : Nat) : Int))) (r := tab cs.length fun i => IntKind.i64.wrap (cs.getD i 0)) rfl (fun k hk => ?_) ?_) (Post.pure rfl))
  · dsimp only
    unfold law10_Ints_L3
    refine Post.brT (decide_eq_true (by omega)) (Post.idx 0 k rfl hk (Post.bnd (app_eq (by simp only [tab_len, List.length_singleton]; omega)) (Post.pure ?_)))
    rw [wrap_succ (by omega), tab_succ k (fun i => IntKind.i64.wrap (cs.getD i 0))]
  · dsimp only
    unfold law10_Ints_L3
    exact Post.brF (decide_eq_false (by omega)) (Post.pure rfl)
theorem like_any (cs : List Int) (hn : cs.length ≤ 4194304) : law14_Like_F cs (tab cs.length fun i => IntKind.i64.wrap (cs.getD i 0)) = some true := by
  unfold law14_Like_F law14_Like_T
  refine Post.run (Post.brF (by rw [tab_len]; simp) (Post.altL (count (L := fun s : List Int × List Int × Int => law14_Like_L4 s.1 s.2.1 s.2.2) cs.length (fun k => (cs, tab cs.length (fun i => IntKind.i64.wrap (cs.getD i 0)), ((k : Nat) : Int))) (r := Sum.inl ()) rfl (fun k hk => ?_) ?_) (Post.pure rfl)))
  · dsimp only
    unfold law14_Like_L4
    refine Post.brT (decide_eq_true (by omega)) (Post.idx 0 k rfl hk (ptab k rfl hk (Post.brF (by simp) (Post.pure ?_))))
    rw [wrap_succ (by omega)]
  · dsimp only
    unfold law14_Like_L4
    exact Post.brF (decide_eq_false (by omega)) (Post.pure rfl)
theorem neutralTwo_F (rs ns ms : List Int) (level : Int) (right : Bool) (h1 : rs.length ≤ 1048576) (h2 : ns.length ≤ 1048576) (h3 : ms.length ≤ 1048576) (w2 : ∀ n ∈ ns, 0 ≤ n ∧ n ≤ 255) (w3 : ∀ n ∈ ms, 0 ≤ n ∧ n ≤ 255) (hl : 0 ≤ level ∧ level ≤ 255) : law16_NeutralTwo_F rs ns ms level right = some true := by
  obtain ⟨a, ha, hal⟩ : ∃ a, law08_Classes_F ns = some a ∧ a.length = ns.length := ⟨_, classes_F ns (by omega) w2, tab_len _ _⟩
  obtain ⟨b, hb, hbl⟩ : ∃ b, law08_Classes_F ms = some b ∧ b.length = ms.length := ⟨_, classes_F ms (by omega) w3, tab_len _ _⟩
  unfold law16_NeutralTwo_F law16_NeutralTwo_T
  obtain ⟨n, hn, n1, n2, n3⟩ : ∃ n : Nat, (n : Int) = (if (b.length : Int) < (if (a.length : Int) < (rs.length : Int) then (a.length : Int) else (rs.length : Int)) then (b.length : Int) else (if (a.length : Int) < (rs.length : Int) then (a.length : Int) else (rs.length : Int))) ∧ n ≤ rs.length ∧ n ≤ a.length ∧ n ≤ b.length := by
    refine ⟨min (min rs.length a.length) b.length, ?_, by omega, by omega, by omega⟩
    split <;> split <;> omega
  have hcut : law16_Cut_F rs ns ms = some (rs.take n, a.take n, b.take n) := by
    unfold law16_Cut_F law16_Cut_T
    refine Post.run (Post.bnd ha (Post.bnd hb ?_))
    rw [← hn]
    exact Post.bnd (cut_take rfl n1) (Post.bnd (cut_take rfl n2) (Post.bnd (cut_take rfl n3) (Post.pure rfl)))
  have hside : ∃ s, law14_Side_F right = some s := by
    unfold law14_Side_F law14_Side_T
    cases right
    · exact ⟨0, rfl⟩
    · exact ⟨1, rfl⟩
  obtain ⟨s, hside⟩ := hside
  obtain ⟨l, hlv, l0, l1⟩ : ∃ l : Int, IntKind.i64.wrap (level.tmod 120) = l ∧ 0 ≤ l ∧ l < 120 := by
    rw [Int.tmod_eq_emod_of_nonneg hl.1]
    exact ⟨level % 120, wrap64 (by omega) (by omega), by omega, by omega⟩
  rw [hlv, wrap64 (n := l + 2) (by omega) (by omega)]
  have he : emb (l + 2) = emb l := by unfold emb; split <;> split <;> omega
  have t1 : (rs.take n).length = n := by rw [List.length_take]; omega
  have t2 : (a.take n).length = n := by rw [List.length_take]; omega
  have t3 : (b.take n).length = n := by rw [List.length_take]; omega
  obtain ⟨r, hr, hbr⟩ := brackets_any (rs.take n) (a.take n) (b.take n) s (emb l) t1 t2 t3 (by omega)
  refine Post.run (Post.bnd awake16 (Post.brF rfl (Post.bnd hcut (Post.bnd hside (Post.bnd (hbr l rfl) (Post.bnd (hbr (l + 2) he) (Post.bnd (ints_any r (by omega)) (Post.bnd (like_any r (by omega)) (Post.brT rfl ?_)))))))))
  have e2 := rest_F (b.take n) (l + 2) s s (by omega)
  rw [he] at e2
  exact Post.bnd (rest_F (b.take n) l s s (by omega)) (Post.bnd e2 (Post.bnd (ints_any _ (by rw [tab_len]; omega)) (Post.bnd (like_any _ (by rw [tab_len]; omega)) (Post.pure rfl))))
theorem neutralTwo_all (x : Tys.I [.sl (.int .i32), .sl (.int .u8), .sl (.int .u8), .int .u8, .bool]) (h : WfAll [.sl (.int .i32), .sl (.int .u8), .sl (.int .u8), .int .u8, .bool] x) (hb : bulkAll [.sl (.int .i32), .sl (.int .u8), .sl (.int .u8), .int .u8, .bool] x ≤ 1048576) : law16_NeutralTwo_F x.1 x.2.1 x.2.2.1 x.2.2.2.1 x.2.2.2.2.1 = some true := by
  simp only [bulkAll, bulk] at hb
  exact neutralTwo_F _ _ _ _ _ (by omega) (by omega) (by omega) (fun n hn => wf_u8 (h.2.1.2 n hn)) (fun n hn => wf_u8 (h.2.2.1.2 n hn)) (wf_u8 h.2.2.2.1)

end Go.Proofs.YtaahkcepdgmagaaDoor
