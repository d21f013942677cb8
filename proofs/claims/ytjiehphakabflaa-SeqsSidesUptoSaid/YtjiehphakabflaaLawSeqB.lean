/-
  The laws of sequences: what the document joins, and the three laws.
-/
import Derived.Test.YtjiehphakabflaaLawSeq
namespace Go.Proofs.Ytjiehphakabflaa
set_option linter.all false

/-- the last k ahead of a run that is not taken out, where there is one -/
theorem ahead_F {p : Pg} (h : p.Ok) {k : Nat} (hk : k < p.R) : law13_ahead_F (tab p.n p.lv) (fs p.rs k : Int) p.base = some (p.bef k) := by
  have hb := h.nb
  have r := h.run hk
  have hfn : fs p.rs k < p.n := by have := r.le; have := r.hi; omega
  unfold law13_ahead_F law13_ahead_T
  let g : Nat → Int := fun x => if k = 0 then p.base else if x ≤ ls p.rs (k - 1) then (List.range x).foldl (fun a i => if p.lv i ≠ -1 then p.lv i else a) p.base else p.lv (ls p.rs (k - 1))
  have pre : ∀ x, (List.range (x + 1)).foldl (fun a i => if p.lv i ≠ -1 then p.lv i else a) p.base = if p.lv x ≠ -1 then p.lv x else (List.range x).foldl (fun a i => if p.lv i ≠ -1 then p.lv i else a) p.base := fun x => by
    simp [List.range_succ]
  have val : ∀ x, x ≤ fs p.rs k → (List.range x).foldl (fun a i => if p.lv i ≠ -1 then p.lv i else a) p.base = g x := fun x => by
    induction x with
    | zero =>
      intro _
      show p.base = if k = 0 then p.base else if 0 ≤ ls p.rs (k - 1) then p.base else p.lv (ls p.rs (k - 1))
      rw [if_pos (Nat.zero_le _)]
      split <;> rfl
    | succ x ih =>
      intro hx
      have ih := ih (by omega)
      rw [pre, ih]
      show (if p.lv x ≠ -1 then p.lv x else if k = 0 then p.base else if x ≤ ls p.rs (k - 1) then (List.range x).foldl (fun a i => if p.lv i ≠ -1 then p.lv i else a) p.base else p.lv (ls p.rs (k - 1))) =
        if k = 0 then p.base else if x + 1 ≤ ls p.rs (k - 1) then (List.range (x + 1)).foldl (fun a i => if p.lv i ≠ -1 then p.lv i else a) p.base else p.lv (ls p.rs (k - 1))
      by_cases h0 : k = 0
      · subst h0
        have : p.lv x = -1 := r.front rfl x (by omega) (by omega)
        rw [if_neg (by rw [this]; simp), if_pos rfl, if_pos rfl]
      · rw [if_neg h0, if_neg h0]
        have rk := h.run (k := k - 1) (by omega)
        have nx := rk.next (show k - 1 + 1 < p.R by omega)
        rw [show k - 1 + 1 = k by omega] at nx
        by_cases h1 : x + 1 ≤ ls p.rs (k - 1)
        · rw [if_pos h1, pre, if_pos (show x ≤ ls p.rs (k - 1) by omega)]
        · rw [if_neg h1]
          by_cases h2 : x = ls p.rs (k - 1)
          · subst h2
            rw [if_pos rk.gl]
          · have : p.lv x = -1 := nx.2 x (by omega) (by omega)
            rw [if_neg (by rw [this]; simp), if_neg (by omega)]
  have fin : g (fs p.rs k) = p.bef k := by
    show (if k = 0 then p.base else if fs p.rs k ≤ ls p.rs (k - 1) then (List.range (fs p.rs k)).foldl (fun a i => if p.lv i ≠ -1 then p.lv i else a) p.base else p.lv (ls p.rs (k - 1))) = p.bef k
    unfold Pg.bef
    by_cases h0 : k = 0
    · rw [if_pos h0, if_pos h0]
    · have := h.rise (i := k - 1) (j := k) (by omega) hk
      rw [if_neg h0, if_neg h0, if_neg (by omega)]
  refine Post.run (Post.bnd (count (L := fun s : List Int × Int × Int × Int => law13_ahead_L3 s.1 s.2.1 s.2.2.1 s.2.2.2) (fs p.rs k)
    (fun x => (tab p.n p.lv, (fs p.rs k : Int), (List.range x).foldl (fun a i => if p.lv i ≠ -1 then p.lv i else a) p.base, ((x : Nat) : Int))) (r := p.bef k) rfl (fun x hx => ?_) ?_) (Post.pure rfl))
  · dsimp only
    unfold law13_ahead_L3
    refine Post.brT (decide_eq_true (by omega)) (ptab x rfl (by omega) ?_)
    rw [wrap_succ (k := x) (by omega), pre]
    refine Post.br (fun c => ptab x rfl (by omega) (Post.pure ?_)) (fun c => Post.pure ?_)
    · rw [if_pos (by simpa using c)]
    · rw [if_neg (by simpa using c)]
  · dsimp only
    unfold law13_ahead_L3
    refine Post.brF (decide_eq_false (by omega)) (Post.pure ?_)
    rw [val _ (Nat.le_refl _), fin]
/-- the first one behind a run that is not taken out, where there is one -/
theorem behind_F {p : Pg} (h : p.Ok) {k : Nat} (hk : k < p.R) : law13_behind_F (tab p.n p.lv) (ls p.rs k : Int) p.base = some (p.beh k) := by
  have hb := h.nb
  have r := h.run hk
  have hi := r.hi
  unfold law13_behind_F law13_behind_T
  rw [tab_len, wrap64 (n := (p.n : Int) - 1) (by omega) (by omega)]
  obtain ⟨z, hz, rfl⟩ := loop_ex (L := fun s : List Int × Int × Int × Int => law13_behind_L3 s.1 s.2.1 s.2.2.1 s.2.2.2)
    (I := fun s => ∃ (x : Nat) (v : Int), ls p.rs k < x ∧ x ≤ p.n ∧ s = (tab p.n p.lv, (ls p.rs k : Int), v, (x : Int) - 1) ∧ ((∀ y, ls p.rs k < y → y < x → p.lv y = -1) → v = p.beh k))
    (m := fun s => s.2.2.2.toNat) (R := fun z => z = p.beh k) (s0 := (tab p.n p.lv, (ls p.rs k : Int), p.base, (p.n : Int) - 1))
    (by
      rintro s ⟨x, v, h1, h2, rfl, h3⟩
      dsimp only
      unfold law13_behind_L3
      refine Post.br (fun c => ?_) (fun c => Post.pure (h3 fun y y1 y2 => ?_))
      · rw [decide_eq_true_eq] at c
        have hw : IntKind.i64.wrap ((x : Int) - 1 - 1) = ((x - 1 : Nat) : Int) - 1 := by rw [wrap64 (by omega) (by omega)]; omega
        refine ptab (x - 1) (by omega) (by omega) (Post.br (fun c2 => ptab (x - 1) (by omega) (by omega) (Post.pure ?_)) (fun c2 => Post.pure ?_))
        · have c2 : p.lv (x - 1) ≠ -1 := by simpa using c2
          rw [hw]
          refine ⟨⟨x - 1, p.lv (x - 1), by omega, by omega, rfl, fun hy => ?_⟩, by dsimp only; omega⟩
          unfold Pg.beh
          by_cases e : k + 1 = p.R
          · exact absurd (r.last e (x - 1) (by omega) (by omega)) c2
          · rw [if_neg e]
            have nx := r.next (show k + 1 < p.R by omega)
            have g := (h.run (k := k + 1) (by omega)).gf
            have e1 : fs p.rs (k + 1) = x - 1 := by
              by_cases a : fs p.rs (k + 1) < x - 1
              · exact absurd (hy _ nx.1 a) g
              · by_cases a2 : x - 1 < fs p.rs (k + 1)
                · exact absurd (nx.2 (x - 1) (by omega) a2) c2
                · omega
            rw [e1]
        · have c2 : p.lv (x - 1) = -1 := by simpa using c2
          rw [hw]
          exact ⟨⟨x - 1, v, by omega, by omega, rfl, fun hy => h3 fun y y1 y2 => by
            by_cases e : y = x - 1
            · rw [e]; exact c2
            · exact hy y y1 (by omega)⟩, by dsimp only; omega⟩
      · rw [decide_eq_false_iff_not] at c
        omega)
    ⟨p.n, p.base, hi, Nat.le_refl _, rfl, fun hy => by
      unfold Pg.beh
      by_cases e : k + 1 = p.R
      · rw [if_pos e]
      · have nx := r.next (show k + 1 < p.R by omega)
        have r1 := h.run (k := k + 1) (by omega)
        exact absurd (hy _ nx.1 (by have := r1.le; have := r1.hi; omega)) r1.gf⟩
  exact Post.run (Post.bnd hz (Post.pure rfl))

/-! ### what the document does -/
abbrev L11S := List Int × List Int × Int × List Int × List (List Int) × List Sq × List Bool × Int × List Int × Int
theorem fr_loop {p : Pg} (h : p.Ok) {L : List Int} {out : List Sq} {H : List Bool} {i e : Int} {P : List Int} {l : Nat} (he : e = (l : Int)) (hl : l < p.n) :
    loopW (fun s : List Int × List Int × Int × List Int × List (List Int) × List Sq × List Bool × Int × List Int × Int × Int × Int => (law13_of_L18 s.1 s.2.1 s.2.2.1 s.2.2.2.1 s.2.2.2.2.1 s.2.2.2.2.2.1 s.2.2.2.2.2.2.1 s.2.2.2.2.2.2.2.1 s.2.2.2.2.2.2.2.2.1 s.2.2.2.2.2.2.2.2.2.1 s.2.2.2.2.2.2.2.2.2.2.1 s.2.2.2.2.2.2.2.2.2.2.2).run) (L, p.cs, p.base, tab p.n p.mt, p.rs, out, H, i, P, -1, e, 0) =
      some (L, p.cs, p.base, tab p.n p.mt, p.rs, out, H, i, P, p.fr p.R (p.mt l)) := by
  have hR := h.few
  have hb := h.nb
  subst he
  refine count (L := fun s : List Int × List Int × Int × List Int × List (List Int) × List Sq × List Bool × Int × List Int × Int × Int × Int => law13_of_L18 s.1 s.2.1 s.2.2.1 s.2.2.2.1 s.2.2.2.2.1 s.2.2.2.2.2.1 s.2.2.2.2.2.2.1 s.2.2.2.2.2.2.2.1 s.2.2.2.2.2.2.2.2.1 s.2.2.2.2.2.2.2.2.2.1 s.2.2.2.2.2.2.2.2.2.2.1 s.2.2.2.2.2.2.2.2.2.2.2) p.R
    (fun k => (L, p.cs, p.base, tab p.n p.mt, p.rs, out, H, i, P, p.fr k (p.mt l), (l : Int), ((k : Nat) : Int))) rfl (fun k hk => ?_) ?_
  · dsimp only
    unfold law13_of_L18
    have r := h.run hk
    refine Post.brT (decide_eq_true (by show (k : Int) < (p.R : Int); omega)) (Post.idx [] k rfl hk (Post.idx 0 0 rfl r.pos (ptab l rfl hl ?_)))
    rw [r.fst, wrap_succ (k := k) (by omega), p.fr_succ]
    refine Post.br (fun c => Post.pure ?_) (fun c => Post.pure ?_)
    · rw [if_pos (by simpa using c)]
    · rw [if_neg (by simpa using c)]
  · dsimp only
    unfold law13_of_L18
    exact Post.brF (decide_eq_false (by show ¬ (p.R : Int) < (p.R : Int); omega)) (Post.pure rfl)
theorem chase2 {p : Pg} (h : p.Ok) {out : List Sq} {i : Int} {L : List Int} : ∀ (d k : Nat) (H : List Bool) (P : List Int), p.R ≤ k + d → k < p.R → H.length = p.R → P.length + (d + 1) * p.n ≤ 8796093022208 →
    loopW (fun s : L11S => (law13_of_L11 s.1 s.2.1 s.2.2.1 s.2.2.2.1 s.2.2.2.2.1 s.2.2.2.2.2.1 s.2.2.2.2.2.2.1 s.2.2.2.2.2.2.2.1 s.2.2.2.2.2.2.2.2.1 s.2.2.2.2.2.2.2.2.2).run) (L, p.cs, p.base, tab p.n p.mt, p.rs, out, H, i, P, (k : Int)) =
      some (L, p.cs, p.base, tab p.n p.mt, p.rs, out, mark (H.set k true) (p.T d k), i, P ++ p.cat (k :: p.T d k))
  | d, k, H, P, h1, h2, h3, h4 => by
    have hb := h.nb
    have hR := h.few
    have hl := h.len
    have r := h.run h2
    have hfew := r.few
    have hi := r.hi
    rw [Nat.succ_mul] at h4
    have stopL : ∀ (H : List Bool) (P : List Int), loopW (fun s : L11S => (law13_of_L11 s.1 s.2.1 s.2.2.1 s.2.2.2.1 s.2.2.2.2.1 s.2.2.2.2.2.1 s.2.2.2.2.2.2.1 s.2.2.2.2.2.2.2.1 s.2.2.2.2.2.2.2.2.1 s.2.2.2.2.2.2.2.2.2).run) (L, p.cs, p.base, tab p.n p.mt, p.rs, out, H, i, P, -1) =
        some (L, p.cs, p.base, tab p.n p.mt, p.rs, out, H, i, P) := fun H P => loopW_done (Post.run (by
          dsimp only
          unfold law13_of_L11
          exact Post.brF rfl (Post.pure rfl)))
    -- one round leads to what follows
    have round : Post (law13_of_L11 L p.cs p.base (tab p.n p.mt) p.rs out H i P (k : Int)) (· = .next (L, p.cs, p.base, tab p.n p.mt, p.rs, out, H.set k true, i, P ++ p.rs.getD k [], p.nx k)) := by
      unfold law13_of_L11
      refine Post.brT (decide_eq_true (by omega)) (Post.idx [] k rfl h2 (Post.bnd (app_eq (by omega)) (Post.idx false k rfl (by omega) (Post.idx [] k rfl h2 (Post.idx [] k rfl h2 (Post.bnd (lastAt h h2) (Post.idx 0 (ls p.rs k) rfl (by omega) (Post.bnd (isolate_F _) (Post.br (fun c => ptab (ls p.rs k) rfl hi (Post.br (fun c2 => Post.bnd (fr_loop h rfl hi) (Post.pure ?_)) (fun c2 => Post.pure ?_))) (fun c => Post.pure ?_))))))))))
      · have c2 : p.mt (ls p.rs k) ≠ -1 := by simpa using c2
        have : p.nx k = p.fr p.R (p.mt (ls p.rs k)) := by unfold Pg.nx; rw [if_pos c, if_pos c2]
        rw [this]; rfl
      · have c2 : p.mt (ls p.rs k) = -1 := by simpa using c2
        have : p.nx k = -1 := by unfold Pg.nx; rw [if_pos c, if_neg (by simpa using c2)]
        rw [this]; rfl
      · have : p.nx k = -1 := by unfold Pg.nx; rw [if_neg (by rw [show p.iso k = false from c]; simp)]
        rw [this]; rfl
    rcases h.nx h2 with e | ⟨j, e, h5, h6⟩
    · rw [Pg.T_end e]
      rw [e] at round
      refine loopW_next (Post.run round) ((stopL _ _).trans (congrArg some ?_))
      rw [p.cat_cons, show p.cat [] = [] from rfl, List.append_nil]
      rfl
    · match d, h1, h4 with
      | 0, h1, _ => omega
      | d + 1, h1, h4 =>
        rw [Pg.T_more e]
        rw [e] at round
        have ih := chase2 h (out := out) (i := i) (L := L) d j (H.set k true) (P ++ p.rs.getD k []) (by omega) h6 (by rw [List.length_set]; exact h3) (by rw [List.length_append]; omega)
        refine loopW_next (Post.run round) (ih.trans (congrArg some ?_))
        rw [p.cat_cons k, List.append_assoc]
        rfl
theorem mark_eq {i : Nat} : ∀ (l : List Nat) {H J : List Bool}, H.length = J.length → (∀ j, i ≤ j → H.getD j false = J.getD j false) → ∀ j, i ≤ j → (mark H l).getD j false = (mark J l).getD j false
  | [], _, _, _, h, j, hj => h j hj
  | t :: l, H, J, hl, h, j, hj => by
    show (mark (H.set t true) l).getD j false = (mark (J.set t true) l).getD j false
    refine mark_eq l (by rw [List.length_set, List.length_set, hl]) (fun x hx => ?_) j hj
    have hx' := h x hx
    simp only [List.getD, List.getElem?_set] at hx' ⊢
    by_cases e : t = x
    · rw [if_pos e, if_pos e, hl]
    · rw [if_neg e, if_neg e]; exact hx'
theorem law_F {p : Pg} (h : p.Ok) : law13_of_F (tab p.n p.lv) p.cs p.base = some (p.Sp p.R).2 := by
  have hb := h.nb
  have hR := h.few
  have hl := h.len
  have hbig := big (a := p.R + 1) (n := p.n) (by omega) hb
  unfold law13_of_F law13_of_T
  obtain ⟨z, hz, rfl⟩ := loop_ex (L := fun s : List Int × List Int × Int × List Int × List (List Int) × (List Sq) × List Bool × Int => law13_of_L6 s.1 s.2.1 s.2.2.1 s.2.2.2.1 s.2.2.2.2.1 s.2.2.2.2.2.1 s.2.2.2.2.2.2.1 s.2.2.2.2.2.2.2)
    (I := fun s => ∃ (i : Nat) (H : List Bool), i ≤ p.R ∧ H.length = p.R ∧ s = (tab p.n p.lv, p.cs, p.base, tab p.n p.mt, p.rs, (p.Sp i).2, H, (i : Int)) ∧ ∀ j, i ≤ j → H.getD j false = (p.Sp i).1.getD j false)
    (m := fun s => p.R - s.2.2.2.2.2.2.2.toNat) (R := fun z => z = (p.Sp p.R).2) (s0 := (tab p.n p.lv, p.cs, p.base, tab p.n p.mt, p.rs, [], List.replicate p.R false, 0))
    (by
      rintro s ⟨k, H, h1, h2, rfl, h3⟩
      dsimp only
      unfold law13_of_L6
      obtain ⟨s1, s2⟩ := p.Sp_len k
      refine Post.br (fun c => ?_) (fun c => Post.pure ?_)
      · have hk : k < p.R := by
          have c : (k : Int) < (p.R : Int) := of_decide_eq_true c
          omega
        have r := h.run hk
        obtain ⟨t1, t2⟩ := h.T p.R k hk
        have hm : ∀ j ∈ k :: p.C k, j < p.R := fun j hj => by
          rcases List.mem_cons.1 hj with rfl | hj
          · exact hk
          · exact (t2 j hj).2
        obtain ⟨e1, e2, e3⟩ := h.ends (p.C k) k hm
        have hlast : (p.C k).getLastD k < p.R := by
          cases hc : p.C k with
          | nil => exact hk
          | cons j l =>
            rw [List.getLastD_cons]
            have : (l.getLastD j) ∈ j :: l := by
              rw [← List.getLastD_cons (a := j), ← List.getLast_eq_getLastD (by simp)]
              exact List.getLast_mem _
            exact hm _ (by rw [hc]; exact List.mem_cons_of_mem _ this)
        have rl := h.run hlast
        have hcl := h.cat (k :: p.C k) hm
        have t1' : (p.C k).length ≤ p.R := t1
        have hcb : (p.cat (k :: p.C k)).length ≤ 4398048608256 := Nat.le_trans hcl (Nat.le_trans (Nat.mul_le_mul_right _ (by rw [List.length_cons]; omega)) hbig)
        refine Post.idx false k rfl (by omega) (Post.br (fun c2 => Post.pure ?_) (fun c2 => ?_))
        · have c3 : (p.Sp k).1.getD k false = true := (h3 k (Nat.le_refl _)).symm.trans c2
          rw [wrap_succ (k := k) (by omega)]
          exact ⟨⟨k + 1, H, by omega, h2, by rw [p.Sp_succ, if_pos c3], fun j hj => by rw [p.Sp_succ, if_pos c3]; exact h3 j (by omega)⟩, by dsimp only; omega⟩
        · have c3 : ¬ (p.Sp k).1.getD k false = true := by rw [← h3 k (Nat.le_refl _), c2]; simp
          have hch := chase2 h (out := (p.Sp k).2) (i := (k : Int)) (L := tab p.n p.lv) p.R k H [] (by omega) hk h2 (by simp only [List.length_nil]; omega)
          rw [List.nil_append] at hch
          refine Post.bnd hch ?_
          dsimp only
          have i3 : idx (p.cat (k :: p.T p.R k)) (IntKind.i64.wrap (((p.cat (k :: p.T p.R k)).length : Int) - 1)) = some (ls p.rs ((p.C k).getLastD k) : Int) := by
            rw [← e3]
            refine idx_getD 0 ?_ (by show (p.cat (k :: p.C k)).length - 1 < (p.cat (k :: p.C k)).length; omega)
            show IntKind.i64.wrap (((p.cat (k :: p.C k)).length : Int) - 1) = _
            rw [wrap64 (by omega) (by omega)]; omega
          have i2 : idx (p.cat (k :: p.T p.R k)) 0 = some (fs p.rs k : Int) := by
            rw [← e2]
            exact idx_getD (k := 0) 0 rfl e1
          have hnext : ∀ {v : Sq}, v = p.sq k → (∃ (i : Nat) (H' : List Bool), i ≤ p.R ∧ H'.length = p.R ∧ (tab p.n p.lv, p.cs, p.base, tab p.n p.mt, p.rs, (p.Sp k).2 ++ [v], mark (H.set k true) (p.T p.R k), ((k + 1 : Nat) : Int)) = (tab p.n p.lv, p.cs, p.base, tab p.n p.mt, p.rs, (p.Sp i).2, H', (i : Int)) ∧ ∀ j, i ≤ j → H'.getD j false = (p.Sp i).1.getD j false) ∧ p.R - ((k + 1 : Nat) : Int).toNat < p.R - (k : Int).toNat := fun hv =>
            ⟨⟨k + 1, mark (H.set k true) (p.T p.R k), by omega, by rw [mark_len, List.length_set]; exact h2, by rw [hv, p.Sp_succ, if_neg c3], fun j hj => by
              rw [p.Sp_succ, if_neg c3]
              refine mark_eq (i := k + 1) (p.T p.R k) (by rw [List.length_set, h2, s1]) (fun x hx => ?_) j hj
              rw [← h3 x (by omega)]
              simp only [List.getD, List.getElem?_set]
              rw [if_neg (by omega)]⟩, by omega⟩
          refine Post.bnd i3 (Post.bnd i2 (ptab (fs p.rs k) rfl (by have := r.le; have := r.hi; omega) (Post.bnd (behind_F h hlast) (Post.idx 0 (ls p.rs ((p.C k).getLastD k)) rfl (by have := rl.hi; omega) (Post.bnd (isolate_F _) (Post.br (fun c4 => ?_) (fun c4 => ?_)))))))
          · refine Post.bnd i2 (Post.bnd (ahead_F h hk) (Post.bnd (cls_F _) (Post.bnd (cls_F _) (Post.bnd (app_eq (by simp only [List.length_singleton]; omega)) (Post.pure ?_)))))
            rw [wrap_succ (k := k) (by omega)]
            refine hnext ?_
            have : p.aft ((p.C k).getLastD k) = p.base := by unfold Pg.aft; rw [if_pos c4]
            unfold Pg.sq
            rw [this]
            rfl
          · refine Post.bnd i2 (Post.bnd (ahead_F h hk) (Post.bnd (cls_F _) (Post.bnd (cls_F _) (Post.bnd (app_eq (by simp only [List.length_singleton]; omega)) (Post.pure ?_)))))
            rw [wrap_succ (k := k) (by omega)]
            refine hnext ?_
            have : p.aft ((p.C k).getLastD k) = p.beh ((p.C k).getLastD k) := by unfold Pg.aft; rw [if_neg (by rw [show p.iso ((p.C k).getLastD k) = false from c4]; simp)]
            unfold Pg.sq
            rw [this]
            rfl
      · have c : ¬ (k : Int) < (p.R : Int) := of_decide_eq_false c
        have : k = p.R := by omega
        subst this
        rfl)
    ⟨0, List.replicate p.R false, Nat.zero_le _, List.length_replicate .., rfl, fun j _ => rfl⟩
  exact Post.run (Post.bnd (Pg.match_F h) (Post.bnd (runs_tab (by omega)) (Post.bnd (mk_eq (k := p.R) rfl (by omega)) (Post.bnd hz (Post.pure rfl)))))

/-! ### alike -/
theorem like13 (a : List Sq) (ha : a.length ≤ 4194304) (hb : ∀ x ∈ a, x.1.length ≤ 4398048608256) : loopW (fun s : List Sq × List Sq × Int => (law13_like_L5 s.1 s.2.1 s.2.2).run) (a, a, 0) = some (.inl ()) := by
  refine count (L := fun s : List Sq × List Sq × Int => law13_like_L5 s.1 s.2.1 s.2.2) a.length (fun k => (a, a, ((k : Nat) : Int))) rfl (fun k hk => ?_) ?_
  · dsimp only
    unfold law13_like_L5
    have hx : idx a (k : Int) = some a[k] := idx_get rfl hk
    have hlen := hb a[k] (List.getElem_mem hk)
    refine Post.brT (decide_eq_true (by omega)) (Post.bnd hx (Post.bnd hx (Post.brF (by simp) (Post.bnd hx (Post.bnd hx (Post.brF (by simp) (Post.bnd hx (Post.bnd hx (Post.brF (by simp) (Post.bnd hx (Post.bnd hx (Post.brF (by simp) ?_))))))))))))
    refine Post.altL (count (L := fun s : List Sq × List Sq × Int × Int => law13_like_L10 s.1 s.2.1 s.2.2.1 s.2.2.2) (a[k].1.length) (fun i => (a, a, (k : Int), ((i : Nat) : Int))) (r := Sum.inl (a, a, (k : Int))) rfl (fun i hi => ?_) ?_) (Post.pure ?_)
    · dsimp only
      unfold law13_like_L10
      refine Post.bnd hx (Post.brT (decide_eq_true (by omega)) (Post.bnd hx (Post.idx 0 i rfl hi (Post.bnd hx (Post.idx 0 i rfl hi (Post.brF (by simp) (Post.pure ?_)))))))
      rw [wrap_succ (k := i) (by omega)]
    · dsimp only
      unfold law13_like_L10
      exact Post.bnd hx (Post.brF (decide_eq_false (by omega)) (Post.pure rfl))
    · rw [wrap_succ (k := k) (by omega)]
  · dsimp only
    unfold law13_like_L5
    exact Post.brF (decide_eq_false (by omega)) (Post.pure rfl)
theorem Pg.Sp_mem (p : Pg) : ∀ i, ∀ x ∈ (p.Sp i).2, ∃ k, k < i ∧ x = p.sq k
  | 0, x, hx => by cases hx
  | i + 1, x, hx => by
    rw [p.Sp_succ] at hx
    split at hx
    · obtain ⟨k, h1, h2⟩ := p.Sp_mem i x hx
      exact ⟨k, by omega, h2⟩
    · rcases List.mem_append.1 hx with hx | hx
      · obtain ⟨k, h1, h2⟩ := p.Sp_mem i x hx
        exact ⟨k, by omega, h2⟩
      · exact ⟨i, by omega, List.mem_singleton.1 hx⟩
theorem likes {p : Pg} (h : p.Ok) : law13_like_F (tab p.n p.lv) p.cs p.base = some true := by
  have hb := h.nb
  have hR := h.few
  have hbig := big (a := p.R + 1) (n := p.n) (by omega) hb
  have hs := p.Sp_len p.R
  unfold law13_like_F law13_like_T
  refine Post.run (Post.bnd (seqs_F h) (Post.bnd (law_F h) (Post.brF (by simp) (Post.altL (like13 _ (by omega) (fun x hx => ?_)) (Post.pure rfl)))))
  obtain ⟨k, h1, rfl⟩ := p.Sp_mem p.R x hx
  obtain ⟨t1, t2⟩ := h.T p.R k h1
  refine Nat.le_trans (h.cat (k :: p.C k) (fun j hj => ?_)) (Nat.le_trans (Nat.mul_le_mul_right _ (by rw [List.length_cons]; show (p.T p.R k).length + 1 ≤ p.R + 1; omega)) hbig)
  rcases List.mem_cons.1 hj with rfl | hj
  · exact h1
  · exact (t2 j hj).2

theorem awake13 : law13_awake_F = some true := by
  have h : (Pg.mk (fun i => ([0, 1, 0] : List Int).getD i 0) 3 [19, 1, 22] 0).Ok := ⟨by decide, rfl, fun i => by
    match i with
    | 0 => decide
    | 1 => decide
    | 2 => decide
    | i + 3 => simp⟩
  have h1 := seqs_F h
  have e1 : tab 3 (fun i => ([0, 1, 0] : List Int).getD i 0) = [0, 1, 0] := rfl
  have e2 : ((Pg.mk (fun i => ([0, 1, 0] : List Int).getD i 0) 3 [19, 1, 22] 0).Sp (Pg.mk (fun i => ([0, 1, 0] : List Int).getD i 0) 3 [19, 1, 22] 0).R).2 = [([0, 2], 0, 0, 0), ([1], 1, 1, 1)] := by decide +kernel
  rw [e2] at h1
  have h1 : seqs_Of_F [0, 1, 0] [19, 1, 22] 0 = some [([0, 2], 0, 0, 0), ([1], 1, 1, 1)] := h1
  unfold law13_awake_F law13_awake_T
  have i0 : ∀ {x y : Sq}, idx [x, y] 0 = some x := fun {x y} => rfl
  have i1 : ∀ {x y : Sq}, idx [x, y] 1 = some y := fun {x y} => rfl
  refine Post.run (Post.bnd h1 (Post.brT rfl (Post.bnd i0 (Post.brT rfl (Post.bnd i0 (Post.bnd (b := 2) rfl (Post.brT rfl ?_)))))))
  refine Post.bnd i0 (Post.brT rfl (Post.bnd i0 (Post.brT rfl (Post.bnd i0 (Post.brT rfl ?_)))))
  exact Post.bnd i1 (Post.brT rfl (Post.bnd i1 (Post.brT rfl (Post.bnd i1 (Post.brT rfl (Post.bnd i1 (Post.pure rfl)))))))

/-! ### the laws -/
theorem seqsJoin_F (ns : List Int) (l : Int) (hn : ns.length ≤ 1048576) (h8 : ∀ n ∈ ns, 0 ≤ n ∧ n ≤ 255) (hl8 : 0 ≤ l ∧ l ≤ 255) : law13_SeqsJoin_F ns l = some true := by
  obtain ⟨cs, hc, hlen, _, hr⟩ := classes_F ns (by omega) h8
  obtain ⟨v, he, hv⟩ := lev2 hl8
  unfold law13_SeqsJoin_F law13_SeqsJoin_T
  rw [he]
  refine Post.run (Post.bnd awake13 (Post.brF rfl (Post.bnd hc (Post.bnd (resolve_F cs hv (by omega)) (Post.bnd (likes (p := ⟨lvs cs v, cs.length, cs, v⟩) ⟨by show cs.length ≤ _; omega, rfl, fun i => ?_⟩) (Post.pure rfl))))))
  have hf := (lvs_facts cs hv i).2.1
  show lvs cs v i ≠ -5
  by_cases e : lvs cs v i = -1
  · rw [e]; omega
  · have := hf e; omega
theorem cut_tab {α : Type} {n m : Nat} {f : Nat → α} (h : m ≤ n) : cut (tab n f) 0 (m : Int) = some (tab m f) := by
  rw [cut_take (n := m) rfl (by rw [tab_len]; exact h)]
  congr 1
  unfold tab
  rw [← List.map_take, List.take_range, Nat.min_eq_left h]
theorem seqsRaw_F (ns ms : List Int) (base : Int) (hn : ns.length ≤ 1048576) (hm : ms.length ≤ 1048576) (h8 : ∀ n ∈ ns, 0 ≤ n ∧ n ≤ 255) (m8 : ∀ n ∈ ms, 0 ≤ n ∧ n ≤ 255) : law13_SeqsRaw_F ns ms base = some true := by
  obtain ⟨cs, hc, hlen, _, hr⟩ := classes_F ms (by omega) m8
  unfold law13_SeqsRaw_F law13_SeqsRaw_T
  have hmin : ∃ k : Nat, (if (cs.length : Int) < ((tab ns.length (lev ns)).length : Int) then (cs.length : Int) else ((tab ns.length (lev ns)).length : Int)) = (k : Int) ∧ k ≤ ns.length ∧ k ≤ cs.length := by
    rw [tab_len]
    split
    · exact ⟨cs.length, rfl, by omega, Nat.le_refl _⟩
    · exact ⟨ns.length, rfl, Nat.le_refl _, by omega⟩
  obtain ⟨k, hk, k1, k2⟩ := hmin
  have ok : ∀ b, (Pg.mk (lev ns) k (cs.take k) b).Ok := fun b => ⟨by show k ≤ _; omega, by show (cs.take k).length = k; rw [List.length_take]; omega, fun i => by
    have := lev_range ns i h8
    show lev ns i ≠ -5
    omega⟩
  have fin : ∀ b, law13_like_F (tab k (lev ns)) (cs.take k) b = some true := fun b => likes (ok b)
  refine Post.run (Post.bnd awake13 (Post.brF rfl (Post.bnd (levels_F ns (by omega) h8) (Post.bnd hc ?_))))
  rw [hk]
  have c1 := cut_tab (f := lev ns) k1
  have c2 : cut cs 0 (k : Int) = some (cs.take k) := cut_take rfl k2
  refine Post.br (fun c => ?_) (fun c => Post.bnd c1 (Post.bnd c2 (Post.bnd (fin _) (Post.pure rfl))))
  have h0 : ∀ b, seqs_Of_F (tab ns.length (lev ns)) cs b = some [] := fun b => by
    unfold seqs_Of_F seqs_Of_T
    exact Post.run (Post.brT c (Post.pure rfl))
  exact Post.bnd (h0 _) (Post.brF rfl (Post.bnd c1 (Post.bnd c2 (Post.bnd (fin _) (Post.pure rfl)))))

theorem seqsJoin_all (x : Tys.I [.sl (.int .u8), .int .u8]) (h : WfAll [.sl (.int .u8), .int .u8] x) (hb : bulkAll [.sl (.int .u8), .int .u8] x ≤ 1048576) : law13_SeqsJoin_F x.1 x.2.1 = some true := by
  simp only [bulkAll, bulk] at hb
  exact seqsJoin_F _ _ (by omega) (fun n hn => wf_u8 (h.1.2 n hn)) (wf_u8 h.2.1)
theorem seqsRaw_all (x : Tys.I [.sl (.int .u8), .sl (.int .u8), .int .u8]) (h : WfAll [.sl (.int .u8), .sl (.int .u8), .int .u8] x) (hb : bulkAll [.sl (.int .u8), .sl (.int .u8), .int .u8] x ≤ 1048576) : law13_SeqsRaw_F x.1 x.2.1 x.2.2.1 = some true := by
  simp only [bulkAll, bulk] at hb
  exact seqsRaw_F _ _ _ (by omega) (by omega) (fun n hn => wf_u8 (h.1.2 n hn)) (fun n hn => wf_u8 (h.2.1.2 n hn))

end Go.Proofs.Ytjiehphakabflaa
