import Derived.Test.YtenbhmjcoljddaaGreatDoorLvE
namespace Go.Proofs.YtenbhmjcoljddaaGreatDoor.Ex
set_option linter.all false
def closeL : List Int → Nat → Nat
 | [], _ => 0
 | c :: r, n => if iso c then 1 + closeL r (n + 1) else if c = 22 then (if n = 1 then 0 else 1 + closeL r (n - 1)) else 1 + closeL r n
theorem closeL_cons (c : Int) (r : List Int) (n : Nat) : closeL (c :: r) n = if iso c then 1 + closeL r (n + 1) else if c = 22 then (if n = 1 then 0 else 1 + closeL r (n - 1)) else 1 + closeL r n := rfl
theorem iso22 : iso 22 = false := rfl
theorem first_skip (inside : Bool) (other : Int) : ∀ (l : List Int) (d : Nat), 0 < d → first inside other l d = first inside other (l.drop (closeL l d + 1)) 0
 | [], d, h => by simp [first]
 | c :: r, d, h => by
  rw [first_cons, closeL_cons]
  by_cases h1 : iso c = true
  ·rw [if_pos h1, if_pos h1, first_skip inside other r (d + 1) (by omega), Nat.add_comm 1 _]
   rfl
  ·rw [if_neg h1, if_neg h1]
   by_cases h2 : c = 22
   ·rw [if_pos ⟨h2, h⟩, if_pos h2]
    by_cases h3 : d = 1
    ·subst h3
     simp
    ·rw [if_neg h3, first_skip inside other r (d - 1) (by omega), Nat.add_comm 1 _]
     rfl
   ·rw [if_neg (fun h => h2 h.1), if_neg (fun h => h2 h.1), if_neg (fun h' => by omega), if_neg h2, first_skip inside other r d h, Nat.add_comm 1 _]
    rfl
theorem closeL_le : ∀ (l : List Int) (n : Nat), closeL l n ≤ l.length
 | [], _ => by simp [closeL]
 | c :: r, n => by
  have h1 := closeL_le r (n + 1)
  have h2 := closeL_le r (n - 1)
  have h3 := closeL_le r n
  unfold closeL
  simp only [List.length_cons]
  repeat' split
  all_goals omega
theorem beginning_F (c : Int) : ref10_beginning_F c = some (iso c) := by
 unfold ref10_beginning_F ref10_beginning_T iso
 rw [Tr.run_br]
 by_cases h1 : c ≥ 19
 ·rw [if_pos (by simpa using h1), Tr.run_pure]
  congr 1
  by_cases h2 : c ≤ 21
  ·have : c = 19 ∨ c = 20 ∨ c = 21 := by omega
   rcases this with rfl | rfl | rfl <;> rfl
  ·have a1 : ¬ c = 19 := by omega
   have a2 : ¬ c = 20 := by omega
   have a3 : ¬ c = 21 := by omega
   simp [h2, a1, a2, a3]
 ·have a1 : ¬ c = 19 := by omega
  have a2 : ¬ c = 20 := by omega
  have a3 : ¬ c = 21 := by omega
  rw [if_neg (by simpa using h1), Tr.run_pure]
  simp [a1, a2, a3]
theorem close_F (cs : List Int) (hn : cs.length ≤ 4194304) (at_ : Nat) (ha : at_ < cs.length) (hi : iso (cs.getD at_ 0) = true) : ref10_Close_F cs (at_ : Int) = some ((at_ + closeL (cs.drop at_) 0 : Nat) : Int) := by
 unfold ref10_Close_F ref10_Close_T
 refine Exists.elim (loopW_rule (f := fun s : List Int × Int × Int => (ref10_Close_L3 s.1 s.2.1 s.2.2).run)
  (fun s => ∃ k n : Nat, k ≤ cs.length ∧ n ≤ k ∧ (0 < n ∨ k = at_) ∧ s = (cs, (n : Int), (k : Int)) ∧ k + closeL (cs.drop k) n = at_ + closeL (cs.drop at_) 0)
  (fun s => cs.length - s.2.2.toNat)
  (fun r => (r = .inl cs ∧ cs.length = at_ + closeL (cs.drop at_) 0) ∨ r = .inr ((at_ + closeL (cs.drop at_) 0 : Nat) : Int)) ?_ (cs, 0, (at_ : Int)) ⟨at_, 0, by omega, by omega, .inr rfl, rfl, rfl⟩) (fun r hr => ?_)
 ·rintro s ⟨k, n, hk, hn', h0, rfl, hf⟩
  dsimp only
  unfold ref10_Close_L3
  rw [Tr.run_br]
  by_cases e : k = cs.length
  ·right
   subst e
   rw [if_neg (by simp), Tr.run_pure]
   refine ⟨_, rfl, .inl ⟨rfl, ?_⟩⟩
   rw [← hf]
   simp [closeL]
  ·have hk' : k < cs.length := by omega
   rw [drop_cons hk'] at hf
   have h0' : iso (cs.getD k 0) = false → 0 < n := by
    intro hh
    rcases h0 with h0 | h0
    ·exact h0
    ·subst h0; rw [hi] at hh; cases hh
   have eget := idx_getD (xs := cs) 0 (i := (k : Int)) rfl hk'
   generalize hc : cs.getD k 0 = c at hf h0' eget
   have nx : ∀ d' : Nat, d' ≤ k + 1 → 0 < d' → k + (1 + closeL (cs.drop (k + 1)) d') = at_ + closeL (cs.drop at_) 0 → ∃ s', (Tr.pure (Lap.next (cs, (d' : Int), (k : Int) + 1)) : Tr (Lap (List Int × Int × Int) (Sum (List Int) Int))).run = some (.next s') ∧
     (∃ k n : Nat, k ≤ cs.length ∧ n ≤ k ∧ (0 < n ∨ k = at_) ∧ s' = (cs, (n : Int), (k : Int)) ∧ k + closeL (cs.drop k) n = at_ + closeL (cs.drop at_) 0) ∧ cs.length - s'.2.2.toNat < cs.length - (k : Int).toNat := by
    intro d' h1 h2 h3
    refine ⟨_, rfl, ⟨k + 1, d', by omega, h1, .inl h2, rfl, by omega⟩, ?_⟩
    dsimp only
    omega
   rw [if_pos (by simp; omega), Tr.run_bnd_some eget, Tr.run_bnd_some (beginning_F c), Tr.run_br, wrap64 (n := (n : Int) + 1) (by omega) (by omega), wrap64 (n := (k : Int) + 1) (by omega) (by omega), wrap64 (n := (n : Int) - 1) (by omega) (by omega)]
   rw [closeL_cons] at hf
   by_cases h1 : iso c = true
   ·left
    have h2 : ¬ c = 22 := by
     intro e; subst e; cases h1
    rw [if_pos h1] at hf ⊢
    rw [Tr.run_bnd_some eget, Tr.run_br, if_neg (by simpa using h2)]
    exact nx (n + 1) (by omega) (by omega) hf
   ·have hn0 := h0' (by simpa using h1)
    rw [if_neg h1] at hf ⊢
    rw [Tr.run_bnd_some eget, Tr.run_br]
    by_cases h2 : c = 22
    ·rw [if_pos h2] at hf
     rw [if_pos (by simpa using h2), Tr.run_br]
     by_cases h3 : n = 1
     ·right
      rw [if_pos h3] at hf
      rw [if_pos (by simp; omega), Tr.run_pure]
      exact ⟨_, rfl, .inr (by rw [← hf]; rfl)⟩
     ·left
      rw [if_neg h3] at hf
      rw [if_neg (by simp; omega)]
      have := nx (n - 1) (by omega) (by omega) hf
      rw [show ((n - 1 : Nat) : Int) = (n : Int) - 1 by omega] at this
      exact this
    ·left
     rw [if_neg h2] at hf
     rw [if_neg (by simpa using h2)]
     exact nx n (by omega) hn0 hf
 ·obtain ⟨hl, ⟨rfl, h⟩ | rfl⟩ := hr
  ·rw [Tr.run_alt_inl hl, Tr.run_pure]
   rw [← h]
  ·rw [Tr.run_alt_inr hl]; rfl
theorem refFirst_F (cs : List Int) (inside : Bool) (other : Int) (hn : cs.length ≤ 4194304) : ref10_First_F cs inside other = some (first inside other cs 0) := by
 unfold ref10_First_F ref10_First_T
 refine Exists.elim (loopW_rule (f := fun s : List Int × Bool × Int × Int => (ref10_First_L2 s.1 s.2.1 s.2.2.1 s.2.2.2).run)
  (fun s => ∃ k : Nat, k ≤ cs.length + 1 ∧ s = (cs, inside, other, (k : Int)) ∧ first inside other cs 0 = first inside other (cs.drop k) 0)
  (fun s => cs.length + 1 - s.2.2.2.toNat)
  (fun r => r = .inl (first inside other cs 0) ∨ r = .inr (first inside other cs 0)) ?_ (cs, inside, other, 0) ⟨0, by omega, rfl, rfl⟩) (fun r hr => ?_)
 ·rintro s ⟨k, hk, rfl, hf⟩
  dsimp only
  unfold ref10_First_L2
  rw [Tr.run_br]
  by_cases e : cs.length ≤ k
  ·right
   rw [if_neg (by simp; omega), Tr.run_pure]
   refine ⟨_, rfl, .inl ?_⟩
   rw [hf, List.drop_of_length_le e]
   simp [first]
  ·have hk' : k < cs.length := by omega
   rw [drop_cons hk'] at hf
   have hcl := close_F cs hn k hk'
   have hle := closeL_le (cs.drop k) 0
   rw [List.length_drop] at hle
   have hcl2 : closeL (cs.drop k) 0 = closeL (cs.getD k 0 :: cs.drop (k + 1)) 0 := by rw [← drop_cons hk']
   have eget := idx_getD (xs := cs) 0 (i := (k : Int)) rfl hk'
   generalize hc : cs.getD k 0 = c at hf hcl hcl2 eget
   rw [if_pos (by simp; omega), Tr.run_bnd_some eget, Tr.run_bnd_some (beginning_F c), Tr.run_br, wrap64 (n := (k : Int) + 1) (by omega) (by omega)]
   have nx : ∀ j : Nat, k < j → j ≤ cs.length + 1 → first inside other cs 0 = first inside other (cs.drop j) 0 → ∃ s', (Tr.pure (Lap.next (cs, inside, other, (j : Int))) : Tr (Lap (List Int × Bool × Int × Int) (Sum Int Int))).run = some (.next s') ∧
     (∃ k : Nat, k ≤ cs.length + 1 ∧ s' = (cs, inside, other, (k : Int)) ∧ first inside other cs 0 = first inside other (cs.drop k) 0) ∧ cs.length + 1 - s'.2.2.2.toNat < cs.length + 1 - (k : Int).toNat := by
    intro j h1 h2 h3
    refine ⟨_, rfl, ⟨j, h2, rfl, h3⟩, ?_⟩
    dsimp only
    omega
   rw [first_cons] at hf
   by_cases h1 : iso c = true
   ·left
    rw [if_pos h1] at hf ⊢
    rw [first_skip inside other (cs.drop (k + 1)) (0 + 1) (by omega)] at hf
    rw [closeL_cons] at hcl2
    rw [if_pos h1] at hcl2
    rw [Tr.run_bnd_some (hcl h1), wrap64 (n := ((k + closeL (cs.drop k) 0 : Nat) : Int) + 1) (by omega) (by omega)]
    refine nx (k + closeL (cs.drop k) 0 + 1) (by omega) (by omega) ?_
    rw [hf, List.drop_drop]
    congr 2
    omega
   ·have tail : ∀ (hin : ¬ (c = 22 ∧ inside = true)), (∃ s', (Tr.bnd (idx cs (k : Int)) fun x_8 => Tr.br (x_8 == 0) (Tr.pure (Lap.done (Sum.inr 0))) (Tr.bnd (idx cs (k : Int)) fun x_9 => Tr.br (x_9 == 1) (Tr.pure (Lap.done (Sum.inr 1)))
       (Tr.bnd (idx cs (k : Int)) fun x_10 => Tr.br (x_10 == 2) (Tr.pure (Lap.done (Sum.inr 1))) (Tr.pure (Lap.next (cs, inside, other, (k : Int) + 1))))) : Tr (Lap (List Int × Bool × Int × Int) (Sum Int Int))).run = some (.next s') ∧
      (∃ k : Nat, k ≤ cs.length + 1 ∧ s' = (cs, inside, other, (k : Int)) ∧ first inside other cs 0 = first inside other (cs.drop k) 0) ∧ cs.length + 1 - s'.2.2.2.toNat < cs.length + 1 - (k : Int).toNat) ∨
      (∃ r, (Tr.bnd (idx cs (k : Int)) fun x_8 => Tr.br (x_8 == 0) (Tr.pure (Lap.done (Sum.inr 0))) (Tr.bnd (idx cs (k : Int)) fun x_9 => Tr.br (x_9 == 1) (Tr.pure (Lap.done (Sum.inr 1)))
       (Tr.bnd (idx cs (k : Int)) fun x_10 => Tr.br (x_10 == 2) (Tr.pure (Lap.done (Sum.inr 1))) (Tr.pure (Lap.next (cs, inside, other, (k : Int) + 1))))) : Tr (Lap (List Int × Bool × Int × Int) (Sum Int Int))).run = some (.done r) ∧
      (r = .inl (first inside other cs 0) ∨ r = .inr (first inside other cs 0))) := by
     intro hin
     rw [if_neg h1, if_neg (fun h => by omega), if_neg hin] at hf
     rw [Tr.run_bnd_some eget, Tr.run_br]
     by_cases s0 : c = 0
     ·right
      subst s0
      rw [if_pos (by simp), Tr.run_pure]
      exact ⟨_, rfl, .inr (by rw [hf]; rfl)⟩
     ·rw [if_neg (by simpa using s0), Tr.run_bnd_some eget, Tr.run_br]
      by_cases s1 : c = 1
      ·right
       subst s1
       rw [if_pos (by simp), Tr.run_pure]
       exact ⟨_, rfl, .inr (by rw [hf]; rfl)⟩
      ·rw [if_neg (by simpa using s1), Tr.run_bnd_some eget, Tr.run_br]
       by_cases s2 : c = 2
       ·right
        subst s2
        rw [if_pos (by simp), Tr.run_pure]
        exact ⟨_, rfl, .inr (by rw [hf]; rfl)⟩
       ·left
        rw [if_neg (by simpa using s2)]
        rw [if_neg (by simp [strong, s0, s1, s2])] at hf
        exact nx (k + 1) (by omega) (by omega) hf
    rw [if_neg h1, Tr.run_bnd_some eget, Tr.run_br]
    by_cases h2 : c = 22
    ·rw [if_pos (by simpa using h2), Tr.run_br]
     by_cases h6 : inside = true
     ·right
      rw [if_pos h6, Tr.run_pure]
      rw [if_neg h1, if_neg (fun h => by omega), if_pos ⟨h2, h6⟩] at hf
      exact ⟨_, rfl, .inr (by rw [hf])⟩
     ·rw [if_neg h6]
      exact tail (fun h => h6 h.2)
    ·rw [if_neg (by simpa using h2)]
     exact tail (fun h => h2 h.1)
 ·obtain ⟨hl, rfl | rfl⟩ := hr
  ·rw [Tr.run_alt_inl hl]; rfl
  ·rw [Tr.run_alt_inr hl]; rfl
def rho (x : En) : En := (x.1, if x.2.1 = 13 then -1 else x.2.1, x.2.2)
def stkR (m : Ms) : List En := (m.1.map rho).reverse
theorem stkR_cons {m : Ms} {x : En} {r : List En} (e : m.1 = x :: r) : stkR m = (rho x :: r.map rho).reverse := by unfold stkR; rw [e]; rfl
theorem stkR_len (m : Ms) : (stkR m).length = m.1.length := by simp [stkR]
theorem up_F {l : Int} (h : 0 ≤ l ∧ l ≤ 125) (odd : Bool) : ref10_up_F l odd = some (nx l odd) := by
 unfold ref10_up_F ref10_up_T nx
 rw [wrap64 (n := l + 1) (by omega) (by omega), wrap64 (n := l + 1 + 1) (by omega) (by omega), Int.tmod_eq_emod_of_nonneg (by omega)]
 refine Post.run (Post.br (fun h1 => Post.pure ?_) (fun h1 => Post.pure ?_))
 ·cases odd
  ·have : (l + 1) % 2 = 1 := by simpa using h1
   rw [if_neg (by simp; omega)]; omega
  ·have : ¬ (l + 1) % 2 = 1 := by simpa using h1
   rw [if_neg (by simp; omega)]; omega
 ·cases odd
  ·have : ¬ (l + 1) % 2 = 1 := by simpa using h1
   rw [if_pos (by simp; omega)]
  ·have : (l + 1) % 2 = 1 := by simpa using h1
   rw [if_pos (by simp; omega)]
theorem rtop {N : Nat} {m : Ms} (h : Good N m) (hN : N ≤ 4194304) : idx (stkR m) (IntKind.i64.wrap (((stkR m).length : Int) - 1)) = some (rho (hd m)) := by
 obtain ⟨r, e⟩ := h.cons
 have hl := h.len
 rw [e, List.length_cons] at hl
 rw [stkR_cons e]
 exact last_idx _ _ (by rw [List.length_map]; omega)
theorem rcut {m : Ms} {x : En} {r : List En} (e : m.1 = x :: r) (hl : r.length ≤ 8388608) : cut (stkR m) 0 (IntKind.i64.wrap (((stkR m).length : Int) - 1)) = some (r.map rho).reverse := by
 rw [stkR_cons e]
 exact last_cut _ _ (by rw [List.length_map]; exact hl)
theorem rov {N : Nat} {m : Ms} (h : Good N m) (c : Int) : decide ((rho (hd m)).2.1 ≥ 0) = true ∧ und m c = (rho (hd m)).2.1 ∨ decide ((rho (hd m)).2.1 ≥ 0) = false ∧ und m c = c := by
 unfold rho und
 dsimp only
 rcases h.topo with e | e | e
 ·right; rw [e]; exact ⟨rfl, rfl⟩
 ·left; rw [e]; exact ⟨rfl, rfl⟩
 ·left; rw [e]; exact ⟨rfl, rfl⟩
abbrev S9 := List Int × Int × List En × Int × Int × Int × List Int × List Int × Int
def ro (cs : List Int) (lev : Int) (m : Ms) (lv out : List Int) (k : Int) : S9 := (cs, lev, stkR m, m.2.1, m.2.2.1, m.2.2.2, lv, out, k)
theorem embT {N : Nat} {m : Ms} (h : Good N m) (hN : N ≤ 4194304) (c : Int) {cs lv out : List Int} {lev kk l o : Int} (hl : l = nx (hd m).1 (c == 16 || c == 17)) (ho : o = if ov c = 13 then -1 else ov c) :
  Post (.br (decide (l ≤ 125)) (
        .br (m.2.1 == 0) (
         .br (m.2.2.1 == 0) (
          .bnd (app 5864062014805 (stkR m) ([(l, o, false)])) fun r_9 =>
          .pure (.next (cs, lev, r_9, m.2.1, m.2.2.1, m.2.2.2, lv, out, kk))) (
          .br (m.2.1 == 0) (
           .pure (.next (cs, lev, stkR m, m.2.1, IntKind.i64.wrap (m.2.2.1 + 1), m.2.2.2, lv, out, kk))) (
           .pure (.next (cs, lev, stkR m, m.2.1, m.2.2.1, m.2.2.2, lv, out, kk))))) (
         .br (m.2.1 == 0) (
          .pure (.next (cs, lev, stkR m, m.2.1, IntKind.i64.wrap (m.2.2.1 + 1), m.2.2.2, lv, out, kk))) (
          .pure (.next (cs, lev, stkR m, m.2.1, m.2.2.1, m.2.2.2, lv, out, kk))))) (
        .br (m.2.1 == 0) (
         .pure (.next (cs, lev, stkR m, m.2.1, IntKind.i64.wrap (m.2.2.1 + 1), m.2.2.2, lv, out, kk))) (
         (.pure (.next (cs, lev, stkR m, m.2.1, m.2.2.1, m.2.2.2, lv, out, kk)) : Tr (Lap S9 (List Int × List Int)))))) (· = .next (ro cs lev (embed c m) lv out kk)) := by
 have hl2 := h.len
 have he := h.emb
 unfold embed
 rw [← hl]
 have no1 : ∀ {x : Bool}, fit m l = false → (m.2.1 == 0) = x → (if fit m l then ((l, ov c, false) :: m.1, m.2) else if m.2.1 = 0 then (m.1, m.2.1, m.2.2.1 + 1, m.2.2.2) else m) = if x then (m.1, m.2.1, m.2.2.1 + 1, m.2.2.2) else m := by
  intro x h1 h2
  rw [h1, ← h2]
  by_cases e : m.2.1 = 0
  ·rw [if_pos e, e]; rfl
  ·have : (m.2.1 == 0) = false := by simpa using e
   rw [if_neg e, this]; rfl
 have put1 : fit m l = false → (m.2.1 == 0) = true → (Lap.next (cs, lev, stkR m, m.2.1, IntKind.i64.wrap (m.2.2.1 + 1), m.2.2.2, lv, out, kk) : Lap S9 (List Int × List Int)) = .next (ro cs lev (if fit m l then ((l, ov c, false) :: m.1, m.2) else if m.2.1 = 0 then (m.1, m.2.1, m.2.2.1 + 1, m.2.2.2) else m) lv out kk) := by
  intro h1 h2
  rw [no1 h1 h2, wrap64 (by omega) (by omega)]
  rfl
 have put2 : fit m l = false → (m.2.1 == 0) = false → (Lap.next (cs, lev, stkR m, m.2.1, m.2.2.1, m.2.2.2, lv, out, kk) : Lap S9 (List Int × List Int)) = .next (ro cs lev (if fit m l then ((l, ov c, false) :: m.1, m.2) else if m.2.1 = 0 then (m.1, m.2.1, m.2.2.1 + 1, m.2.2.2) else m) lv out kk) := by
  intro h1 h2
  rw [no1 h1 h2]
  rfl
 refine Post.br (fun h1 => Post.br (fun h2 => Post.br (fun h3 => ?_) (fun h3 => ?_)) (fun h2 => ?_)) (fun h1 => ?_)
 ·have hf : fit m l = true := by unfold fit; rw [h1, h2, h3]; rfl
  refine Post.bnd (app_eq (by simp only [stkR_len, List.length_cons, List.length_nil]; omega)) (Post.pure ?_)
  rw [if_pos hf, ho]
  simp [ro, stkR, rho]
 ·have hf : fit m l = false := by unfold fit; rw [h1, h2, h3]; rfl
  exact Post.brT h2 (Post.pure (put1 hf h2))
 ·have hf : fit m l = false := by unfold fit; rw [h1, h2]; rfl
  exact Post.brF h2 (Post.pure (put2 hf h2))
 ·have hf : fit m l = false := by unfold fit; rw [h1]; rfl
  exact Post.br (fun h2 => Post.pure (put1 hf h2)) (fun h2 => Post.pure (put2 hf h2))
theorem entT {N : Nat} {m : Ms} (h : Good N m) (hN : N ≤ 4194303) {cs lv out : List Int} {lev kk : Int} {right : Bool} :
  Post (.bnd (ref10_up_F (rho (hd m)).1 right) fun c_28 =>
      .br (decide (c_28 ≤ 125)) (
       .br (m.2.1 == 0) (
        .br (m.2.2.1 == 0) (
         .bnd (app 5864062014805 (stkR m) ([(c_28, ((-1) : Int), true)])) fun r_29 =>
         .pure (.next (cs, lev, r_29, m.2.1, m.2.2.1, IntKind.i64.wrap (m.2.2.2 + 1), lv, out, kk))) (
         .pure (.next (cs, lev, stkR m, IntKind.i64.wrap (m.2.1 + 1), m.2.2.1, m.2.2.2, lv, out, kk)))) (
        .pure (.next (cs, lev, stkR m, IntKind.i64.wrap (m.2.1 + 1), m.2.2.1, m.2.2.2, lv, out, kk)))) (
       (.pure (.next (cs, lev, stkR m, IntKind.i64.wrap (m.2.1 + 1), m.2.2.1, m.2.2.2, lv, out, kk)) : Tr (Lap S9 (List Int × List Int))))) (· = .next (ro cs lev (enter right m) lv out kk)) := by
 have hl2 := h.len
 have hi := h.iso
 have ho := h.opn
 have ht := h.top
 refine Post.bnd (b := nx (hd m).1 right) (up_F ht right) ?_
 unfold enter
 generalize nx (hd m).1 right = l
 have put : fit m l = false → (Lap.next (cs, lev, stkR m, IntKind.i64.wrap (m.2.1 + 1), m.2.2.1, m.2.2.2, lv, out, kk) : Lap S9 (List Int × List Int)) = .next (ro cs lev (if fit m l then ((l, 13, true) :: m.1, m.2.1, m.2.2.1, m.2.2.2 + 1) else (m.1, m.2.1 + 1, m.2.2.1, m.2.2.2)) lv out kk) := by
  intro h1
  rw [h1, wrap64 (by omega) (by omega)]
  rfl
 refine Post.br (fun h1 => Post.br (fun h2 => Post.br (fun h3 => ?_) (fun h3 => Post.pure (put ?_))) (fun h2 => Post.pure (put ?_))) (fun h1 => Post.pure (put ?_))
 ·have hf : fit m l = true := by unfold fit; rw [h1, h2, h3]; rfl
  refine Post.bnd (app_eq (by simp only [stkR_len, List.length_cons, List.length_nil]; omega)) (Post.pure ?_)
  rw [if_pos hf, wrap64 (by omega) (by omega)]
  simp [ro, stkR, rho]
 ·unfold fit; rw [h1, h2, h3]; rfl
 ·unfold fit; rw [h1, h2]; rfl
 ·unfold fit; rw [h1]; rfl
theorem rpopLoop {cs lv out : List Int} {lev i e v k : Int} {t : En} : ∀ (l : List En) {y : En} {r : List En}, l.length ≤ 4194304 → dw l = y :: r →
  loopW (fun s => (ref10_Resolve_L43 s.1 s.2.1 s.2.2.1 s.2.2.2.1 s.2.2.2.2.1 s.2.2.2.2.2.1 s.2.2.2.2.2.2.1 s.2.2.2.2.2.2.2.1 s.2.2.2.2.2.2.2.2.1 s.2.2.2.2.2.2.2.2.2).run) (cs, lev, (l.map rho).reverse, i, e, v, lv, out, k, t) = some (cs, lev, ((y :: r).map rho).reverse, i, e, v, lv, out, k, t)
 | [], _, _, _, h => by cases h
 | x :: l, y, r, hn, h => by
  rw [List.length_cons] at hn
  have ht : idx ((x :: l).map rho).reverse (IntKind.i64.wrap ((((x :: l).map rho).reverse.length : Int) - 1)) = some (rho x) := last_idx (rho x) (l.map rho) (by rw [List.length_map]; omega)
  have hcut : cut ((x :: l).map rho).reverse 0 (IntKind.i64.wrap ((((x :: l).map rho).reverse.length : Int) - 1)) = some (l.map rho).reverse := last_cut (rho x) (l.map rho) (by rw [List.length_map]; omega)
  rw [dw_cons] at h
  by_cases hx : x.2.2 = true
  ·rw [if_pos hx] at h
   injection h with h1 h2
   subst h1 h2
   refine loopW_done (Post.run ?_)
   dsimp only
   unfold ref10_Resolve_L43
   exact Post.bnd ht (Post.brF (by simp [rho, hx]) (Post.pure rfl))
  ·rw [if_neg hx] at h
   refine loopW_next (s' := (cs, lev, (l.map rho).reverse, i, e, v, lv, out, k, t)) (Post.run ?_) (rpopLoop l (by omega) h)
   dsimp only
   unfold ref10_Resolve_L43
   exact Post.bnd ht (Post.brT (by simp [rho, hx]) (Post.bnd hcut (Post.pure rfl)))
theorem refResolve_F (cs : List Int) {lev : Int} (hl : 0 ≤ lev ∧ lev ≤ 1) (hn : cs.length ≤ 4194301) (hcs : ∀ c ∈ cs, 0 ≤ c ∧ c ≤ 22) : ref10_Resolve_F cs lev = some (tab cs.length (lvs cs lev), tab cs.length (cls cs lev)) := by
 unfold ref10_Resolve_F ref10_Resolve_T
 refine Post.run (Post.bnd (mk_eq rfl (by omega)) (Post.bnd (mk_eq rfl (by omega)) (Post.bnd (count cs.length
  (fun k => ro cs lev (ms cs lev k) (tab cs.length (part (lvs cs lev) (fun _ => 0) k)) (tab cs.length (part (cls cs lev) (fun _ => 0) k)) (k : Int)) (r := (tab cs.length (lvs cs lev), tab cs.length (cls cs lev))) ?_ (fun k hk => ?_) ?_) (Post.pure rfl))))
 ·rw [tab_rep]
  rfl
 ·unfold ro
  dsimp only
  unfold ref10_Resolve_L8
  have hg := ms_good cs hl k
  have hg2 := ms_good cs hl (k + 1)
  have hms : ms cs lev (k + 1) = stp (cs.getD k 0) (ask cs k) (ms cs lev k) := rfl
  have hlv : lvs cs lev k = lv1 lev (cs.getD k 0) (ms cs lev k) (ms cs lev (k + 1)) := rfl
  have hcl : cls cs lev k = cl1 (cs.getD k 0) (ms cs lev k) (ms cs lev (k + 1)) := rfl
  have hcr := hcs _ (getD_mem hk)
  have hask : ask cs k = (iso (cs.getD k 0) && val (cs.drop (k + 1))) := rfl
  have hdl : (cs.drop (k + 1)).length ≤ 4194304 := by rw [List.length_drop]; omega
  rw [hms] at hg2
  rw [toNat_nat, wrap_succ (k := k) (by omega)]
  have ic : ∀ {v : Int} {α : Type} {kk : Int → Tr α} {Q : α → Prop}, Post (kk v) Q → Post (.bnd (idx ((tab cs.length (part (cls cs lev) (fun _ => 0) k)).set k v) (k : Int)) kk) Q := fun {v α kk Q} h => Post.bnd (idx_set_at (by omega) (by rw [tab_len]; omega)) h
  have il : ∀ {α : Type} {kk : Int → Tr α} {Q : α → Prop}, Post (kk (part (lvs cs lev) (fun _ => 0) k k)) Q → Post (.bnd (idx (tab cs.length (part (lvs cs lev) (fun _ => 0) k)) (k : Int)) kk) Q := fun {α kk Q} h => ptab k rfl hk h
  have fin : ∀ (v w : Int) (m' : Ms), lvs cs lev k = v → cls cs lev k = w → ms cs lev (k + 1) = m' →
    (Lap.next (ro cs lev m' ((tab cs.length (part (lvs cs lev) (fun _ => 0) k)).set k v) ((tab cs.length (part (cls cs lev) (fun _ => 0) k)).set k w) ((k + 1 : Nat) : Int)) : Lap S9 (List Int × List Int)) =
     .next (ro cs lev (ms cs lev (k + 1)) (tab cs.length (part (lvs cs lev) (fun _ => 0) (k + 1))) (tab cs.length (part (cls cs lev) (fun _ => 0) (k + 1))) ((k + 1 : Nat) : Int)) := by
   intro v w m' h1 h2 h3
   rw [part_set _ h1, part_set _ h2, h3]
  show Post _ (· = Lap.next (ro cs lev (ms cs lev (k + 1)) (tab cs.length (part (lvs cs lev) (fun _ => 0) (k + 1))) (tab cs.length (part (cls cs lev) (fun _ => 0) (k + 1))) ((k + 1 : Nat) : Int)))
  refine Post.brT (decide_eq_true (by omega)) (Post.idx 0 k rfl hk (Post.bnd (rtop hg (by omega)) (ptab k rfl hk ?_)))
  generalize hc : cs.getD k 0 = c at hms hlv hcl hg2 hcr hask ⊢
  generalize hm : ms cs lev k = m at hms hlv hcl hg hg2 ⊢
  have emb : ∀ (o l : Int), 14 ≤ c ∧ c ≤ 17 → l = nx (hd m).1 (c == 16 || c == 17) → (o = if ov c = 13 then -1 else ov c) → _ := fun o l h1 h2 h3 =>
   (embT hg (show k ≤ 4194304 by omega) c (cs := cs) (lv := (tab cs.length (part (lvs cs lev) (fun _ => 0) k)).set k (-1)) (out := (tab cs.length (part (cls cs lev) (fun _ => 0) k)).set k c) (lev := lev) (kk := ((k + 1 : Nat) : Int)) (l := l) (o := o) h2 h3).mono (fun a ha => ha.trans (fin _ _ (embed c m) (by rw [hlv]; unfold lv1; rw [if_pos h1]) (by rw [hcl]; unfold cl1; rw [if_pos h1]) (by rw [hms]; unfold stp; rw [if_pos h1])))
  by_cases a1 : 14 ≤ c ∧ c ≤ 17
  ·refine Post.brT (decide_eq_true a1.1) (Post.brT (decide_eq_true a1.2) (il (Post.bnd (box0 _) ?_)))
   have ht := hg.top
   have e4 : c = 14 ∨ c = 15 ∨ c = 16 ∨ c = 17 := by omega
   rcases e4 with e | e | e | e <;> subst e
   ·exact Post.brF rfl (Post.bnd (b := nx (hd m).1 false) (up_F ht false) (Post.brF rfl (Post.brF rfl (emb _ _ a1 rfl rfl))))
   ·exact Post.brF rfl (Post.bnd (b := nx (hd m).1 false) (up_F ht false) (Post.brT rfl (Post.brF rfl (emb _ _ a1 rfl rfl))))
   ·exact Post.brT rfl (Post.bnd (b := nx (hd m).1 true) (up_F ht true) (Post.brF rfl (Post.brF rfl (emb _ _ a1 rfl rfl))))
   ·exact Post.brF rfl (Post.bnd (b := nx (hd m).1 true) (up_F ht true) (Post.brF rfl (Post.brT rfl (emb _ _ a1 rfl rfl))))
  by_cases a2 : iso c = true
  ·have hge : 19 ≤ c ∧ c ≤ 21 := by
    have : c = 19 ∨ c = 20 ∨ c = 21 := by unfold iso at a2; simpa [or_assoc] using a2
    omega
   have e1 : lvs cs lev k = (hd m).1 := by rw [hlv]; exact lv1_iso a2 a1
   have e2 : cls cs lev k = und m c := by rw [hcl]; unfold cl1; rw [if_neg a1, if_pos a2]
   have e3 : ms cs lev (k + 1) = enter (c == 20 || (c == 21 && ask cs k)) m := by rw [hms]; unfold stp; rw [if_neg a1, if_pos a2]
   have hask2 : ask cs k = val (cs.drop (k + 1)) := by rw [hask, a2]; rfl
   refine Post.brT (decide_eq_true (by omega)) (Post.brF (decide_eq_false (by omega)) (Post.bnd (beginning_F c) (Post.brT a2 (Post.bnd (box0 _) (il (Post.bnd (box0 _) ?_))))))
   -- which way it runs
   have way : ∀ {out : List Int}, Post (
  .br (c == 20) (
   .pure (cs, lev, stkR m, m.2.1, m.2.2.1, m.2.2.2, (tab cs.length (part (lvs cs lev) (fun _ => 0) k)).set k (rho (hd m)).1, out, (k : Int), rho (hd m), true)) (
   .br (c == 21) (
    .bnd (cut cs ((k + 1 : Nat) : Int) (cs.length : Int)) fun r_24 =>
    .bnd (ref10_First_F r_24 true 0) fun c_25 =>
    .pure (cs, lev, stkR m, m.2.1, m.2.2.1, m.2.2.2, (tab cs.length (part (lvs cs lev) (fun _ => 0) k)).set k (rho (hd m)).1, out, (k : Int), rho (hd m), c_25 == 1)) (
    (.pure (cs, lev, stkR m, m.2.1, m.2.2.1, m.2.2.2, (tab cs.length (part (lvs cs lev) (fun _ => 0) k)).set k (rho (hd m)).1, out, (k : Int), rho (hd m), false) : Tr (List Int × Int × (List (Int × Int × Bool)) × Int × Int × Int × List Int × List Int × Int × (Int × Int × Bool) × Bool))))) (· = (cs, lev, stkR m, m.2.1, m.2.2.1, m.2.2.2, (tab cs.length (part (lvs cs lev) (fun _ => 0) k)).set k (rho (hd m)).1, out, (k : Int), rho (hd m), c == 20 || (c == 21 && ask cs k))) := by
    intro out
    refine Post.br (fun h => Post.pure (by rw [h]; rfl)) (fun h => Post.br (fun h2 => ?_) (fun h2 => Post.pure (by rw [h, h2]; rfl)))
    refine Post.bnd (cut_drop rfl rfl (by omega) (Nat.le_refl _)) (Post.bnd (refFirst_F _ true 0 (by rw [List.take_length]; exact hdl)) (Post.pure ?_))
    rw [h, h2, hask2, List.take_length]
    rfl
   rcases rov hg c with ⟨o1, o2⟩ | ⟨o1, o2⟩
   ·refine Post.brT o1 (Post.bnd (box0 _) (ic (Post.bnd way.run (Post.bnd (box0 _) ?_))))
    dsimp only
    rw [set_set]
    refine (entT hg (by omega)).mono (fun a ha => ha.trans ?_)
    rw [wrap_succ (k := k) (by omega)]
    exact fin _ _ _ e1 (e2.trans o2) e3
   ·refine Post.brF o1 (Post.bnd way.run (Post.bnd (box0 _) ?_))
    dsimp only
    refine (entT hg (by omega)).mono (fun a ha => ha.trans ?_)
    rw [wrap_succ (k := k) (by omega)]
    exact fin _ _ _ e1 (e2.trans o2) e3
  by_cases a3 : c = 22
  ·have e3 : ms cs lev (k + 1) = leave m := by rw [hms]; unfold stp; rw [if_neg a1, if_neg a2, if_pos a3]
   have e1 : lvs cs lev k = (hd (leave m)).1 := by rw [hlv, e3]; unfold lv1; rw [if_neg a1, if_neg a2, if_pos a3]
   have e2 : cls cs lev k = und (leave m) c := by rw [hcl, e3]; unfold cl1; rw [if_neg a1, if_neg a2, if_pos a3]
   have hgl : Good (k + 1) (leave m) := leave_good hg
   have hi := hg.iso
   have hop := hg.opn
   have hgl2 := hg.len
   refine Post.brT (decide_eq_true (by omega)) (Post.brF (decide_eq_false (by omega)) (Post.bnd (beginning_F c) (Post.brF (by simpa using a2) (Post.brT (by simp [a3]) (Post.br (fun b1 => ?_) (fun b1 => Post.br (fun b2 => ?_) (fun b2 => ?_)))))))
   ·have b1 : 0 < m.2.1 := by simpa using b1
    have el : leave m = (m.1, m.2.1 - 1, m.2.2.1, m.2.2.2) := by unfold leave; rw [if_pos b1]
    have eh : hd (leave m) = hd m := by rw [el]; rfl
    have eu : und (leave m) c = und m c := by unfold und; rw [eh]
    refine Post.bnd (rtop hg (by omega)) (Post.bnd (box0 _) (il (Post.bnd (box0 _) ?_)))
    rw [wrap64 (n := m.2.1 - 1) (by omega) (by omega)]
    rcases rov hg c with ⟨o1, o2⟩ | ⟨o1, o2⟩
    ·refine Post.brT o1 (Post.bnd (box0 _) (ic (Post.pure ?_)))
     rw [set_set]
     have := fin _ _ _ (e1.trans (by rw [eh])) (e2.trans (eu.trans o2)) e3
     rw [← this, el]
     rfl
    ·refine Post.brF o1 (Post.pure ?_)
     have := fin _ _ _ (e1.trans (by rw [eh])) (e2.trans (eu.trans o2)) e3
     rw [← this, el]
     rfl
   ·have b1 : ¬ 0 < m.2.1 := by simpa using b1
    have b2 : 0 < m.2.2.2 := by simpa using b2
    obtain ⟨l, b, e, hb⟩ := hg.bot
    have hct := hg.cnt
    rw [e] at hct
    obtain ⟨y, l', d1, d2, d3, d4, d5⟩ := dw_spec hb l (by omega)
    rw [← e] at d1
    have el : leave m = (l' ++ [b], m.2.1, 0, m.2.2.2 - 1) := by unfold leave; rw [if_neg b1, if_neg (by omega), d1]; rfl
    have hll : l.length + 1 ≤ k + 1 := by rw [e] at hgl2; simpa using hgl2
    have hst : ((l' ++ [b]).map rho).reverse = stkR (leave m) := by rw [el]; rfl
    refine Post.bnd (rpopLoop m.1 (by omega) d1) (Post.bnd (b := ((l' ++ [b]).map rho).reverse) (last_cut (rho y) ((l' ++ [b]).map rho) (by simp; omega)) ?_)
    dsimp only
    rw [hst]
    refine Post.bnd (rtop hgl (by omega)) (Post.bnd (box0 _) (il (Post.bnd (box0 _) ?_)))
    rw [wrap64 (n := m.2.2.2 - 1) (by omega) (by omega)]
    rcases rov hgl c with ⟨o1, o2⟩ | ⟨o1, o2⟩
    ·refine Post.brT o1 (Post.bnd (box0 _) (ic (Post.pure ?_)))
     rw [toNat_nat, set_set, wrap_succ (k := k) (by omega)]
     have := fin _ _ _ e1 (e2.trans o2) e3
     rw [← this, el]
     rfl
    ·refine Post.brF o1 (Post.pure ?_)
     rw [toNat_nat, wrap_succ (k := k) (by omega)]
     have := fin _ _ _ e1 (e2.trans o2) e3
     rw [← this, el]
     rfl
   ·have b1 : ¬ 0 < m.2.1 := by simpa using b1
    have b2 : ¬ 0 < m.2.2.2 := by simpa using b2
    have el : leave m = m := by unfold leave; rw [if_neg b1, if_pos (by omega)]
    rw [el] at e1 e2 e3
    refine Post.bnd (rtop hg (by omega)) (Post.bnd (box0 _) (il (Post.bnd (box0 _) ?_)))
    rcases rov hg c with ⟨o1, o2⟩ | ⟨o1, o2⟩
    ·refine Post.brT o1 (Post.bnd (box0 _) (ic (Post.pure ?_)))
     rw [set_set]
     exact fin _ _ _ e1 (e2.trans o2) e3
    ·refine Post.brF o1 (Post.pure ?_)
     exact fin _ _ _ e1 (e2.trans o2) e3
  by_cases a4 : c = 18
  ·have e3 : ms cs lev (k + 1) = finish m := by rw [hms]; unfold stp; rw [if_neg a1, if_neg a2, if_neg a3, if_pos a4]
   have e1 : lvs cs lev k = -1 := by rw [hlv]; unfold lv1; rw [if_neg a1, if_neg a2, if_neg a3, if_pos a4]
   have e2 : cls cs lev k = c := by rw [hcl]; unfold cl1; rw [if_neg a1, if_neg a2, if_neg a3, if_pos a4]
   have hi := hg.iso
   have he := hg.emb
   have hgl2 := hg.len
   obtain ⟨r, er⟩ := hg.cons
   refine Post.brT (decide_eq_true (by omega)) (Post.brF (decide_eq_false (by omega)) (Post.bnd (beginning_F c) (Post.brF (by simpa using a2) (Post.brF (by simpa using a3) (Post.brT (by simp [a4]) (il (Post.br (fun b1 => ?_) (fun b1 => ?_))))))))
   ·have b1' : m.2.1 = 0 := by simpa using b1
    refine Post.br (fun b2 => Post.pure ?_) (fun b2 => Post.brT b1 (Post.bnd (box0 _) (Post.br (fun b3 => Post.br (fun b4 => Post.bnd (rcut er (by rw [er] at hgl2; simp at hgl2; omega)) (Post.pure ?_)) (fun b4 => Post.pure ?_)) (fun b3 => Post.pure ?_))))
    ·have b2 : 0 < m.2.2.1 := by simpa using b2
     have el : finish m = (m.1, m.2.1, m.2.2.1 - 1, m.2.2.2) := by unfold finish; rw [if_neg (by omega), if_pos b2]
     rw [wrap64 (n := m.2.2.1 - 1) (by omega) (by omega)]
     have := fin _ _ _ e1 e2 e3
     rw [← this, el]
     rfl
    ·have b2 : ¬ 0 < m.2.2.1 := by simpa using b2
     have b3 : (!(hd m).2.2) = true := b3
     have b4 : decide (((stkR m).length : Int) ≥ 2) = true := b4
     rw [stkR_len] at b4
     have el : finish m = (r, m.2) := by unfold finish; rw [if_neg (by omega), if_neg b2, if_pos ⟨by simpa using b3, by simp at b4; omega⟩, er]; rfl
     have := fin _ _ _ e1 e2 e3
     rw [← this, el]
     rfl
    ·have b2 : ¬ 0 < m.2.2.1 := by simpa using b2
     have b4 : decide (((stkR m).length : Int) ≥ 2) = false := b4
     rw [stkR_len] at b4
     have el : finish m = m := by unfold finish; rw [if_neg (by omega), if_neg b2, if_neg (fun h => by simp at b4; omega)]
     rw [el] at e3
     exact fin _ _ _ e1 e2 e3
    ·have b2 : ¬ 0 < m.2.2.1 := by simpa using b2
     have b3 : (!(hd m).2.2) = false := b3
     have el : finish m = m := by unfold finish; rw [if_neg (by omega), if_neg b2, if_neg (fun h => by rw [h.1] at b3; cases b3)]
     rw [el] at e3
     exact fin _ _ _ e1 e2 e3
   ·have b1' : ¬ m.2.1 = 0 := by simpa using b1
    have el : finish m = m := by unfold finish; rw [if_pos (by omega)]
    rw [el] at e3
    exact Post.brF b1 (Post.pure (fin _ _ _ e1 e2 e3))
  have hlt : c < 14 := by
   have : ¬ (c = 19 ∨ c = 20 ∨ c = 21) := by unfold iso at a2; simpa [or_assoc] using a2
   omega
  have e3 : ms cs lev (k + 1) = m := by rw [hms]; unfold stp; rw [if_neg a1, if_neg a2, if_neg a3, if_neg a4]
  refine Post.brF (decide_eq_false (by omega)) (Post.bnd (beginning_F c) (Post.brF (by simpa using a2) (Post.brF (by simpa using a3) (Post.brF (by simpa using a4) (Post.br (fun b1 => il (Post.pure ?_)) (fun b1 => Post.br (fun b2 => il (Post.pure ?_)) (fun b2 => Post.bnd (box0 _) (il (Post.bnd (box0 _) ?_)))))))))
  ·have b1 : c = 10 := by simpa using b1
   exact fin _ _ _ (by rw [hlv]; unfold lv1; rw [if_neg a1, if_neg a2, if_neg a3, if_neg a4, if_pos b1]) (by rw [hcl]; unfold cl1; rw [if_neg a1, if_neg a2, if_neg a3, if_neg a4, if_pos b1]) e3
  ·have b1 : ¬ c = 10 := by simpa using b1
   have b2 : c = 9 := by simpa using b2
   exact fin _ _ _ (by rw [hlv]; unfold lv1; rw [if_neg a1, if_neg a2, if_neg a3, if_neg a4, if_neg b1, if_pos b2]) (by rw [hcl]; unfold cl1; rw [if_neg a1, if_neg a2, if_neg a3, if_neg a4, if_neg b1, if_pos b2]) e3
  ·have b1 : ¬ c = 10 := by simpa using b1
   have b2 : ¬ c = 9 := by simpa using b2
   have e1 : lvs cs lev k = (hd m).1 := by rw [hlv]; unfold lv1; rw [if_neg a1, if_neg a2, if_neg a3, if_neg a4, if_neg b1, if_neg b2]
   have e2 : cls cs lev k = und m c := by rw [hcl]; unfold cl1; rw [if_neg a1, if_neg a2, if_neg a3, if_neg a4, if_neg b1, if_neg b2]
   rcases rov hg c with ⟨o1, o2⟩ | ⟨o1, o2⟩
   ·refine Post.brT o1 (Post.bnd (box0 _) (ic (Post.pure ?_)))
    rw [set_set]
    exact fin _ _ _ e1 (e2.trans o2) e3
   ·exact Post.brF o1 (Post.pure (fin _ _ _ e1 (e2.trans o2) e3))
 ·unfold ro
  dsimp only
  unfold ref10_Resolve_L8
  rw [part_end, part_end]
  exact Post.brF (decide_eq_false (by omega)) (Post.pure rfl)
theorem cls_range (cs : List Int) {lev : Int} (hl : 0 ≤ lev ∧ lev ≤ 1) (hcs : ∀ c ∈ cs, 0 ≤ c ∧ c ≤ 22) {k : Nat} (hk : k < cs.length) : 0 ≤ cls cs lev k ∧ cls cs lev k ≤ 22 := by
 have h1 := hcs _ (getD_mem hk)
 rcases (lvs_facts cs hl k).2.2.2 with e | e | e <;> rw [e] <;> omega
end Go.Proofs.YtenbhmjcoljddaaGreatDoor.Ex
