import Derived.Test.YtenbhmjcoljddaaGreatDoorSh
import Derived.Test.YtenbhmjcoljddaaGreatDoorEvMath
namespace Go.Proofs.YtenbhmjcoljddaaGreatDoor.Wk
set_option linter.all false
theorem iso_F (c : Int) : bidic_Isolate_F c = some (c == 19 || c == 20 || c == 21) := by
 unfold bidic_Isolate_F bidic_Isolate_T
 simp only [Tr.run_br, Tr.run_pure]
 by_cases h1 : c = 19 <;> by_cases h2 : c = 20 <;> simp_all
theorem strong_F (c : Int) : bidic_Strong_F c = some (c == 0 || c == 1 || c == 2) := by
 unfold bidic_Strong_F bidic_Strong_T
 simp only [Tr.run_br, Tr.run_pure]
 by_cases h1 : c = 0 <;> by_cases h2 : c = 1 <;> simp_all
theorem joins_F (a b : Int) : weak_joins_F a b = some (b == 3 && (a == 4 || a == 7) || b == 6 && a == 7) := by
 unfold weak_joins_F weak_joins_T
 simp only [Tr.run_br, Tr.run_pure]
 by_cases h1 : b = 3 <;> by_cases h2 : b = 6 <;> by_cases h3 : a = 4 <;> simp_all
theorem clone_F (cs : List Int) (hn : cs.length ≤ 4194304) : bidic_Class__F cs = some cs := by
 unfold bidic_Class__F bidic_Class__T
 rw [Tr.run_bnd_some (app_eq (by simp; omega))]; rfl
def blank (b : Int) : Int := if 19 ≤ b ∧ b ≤ 22 then 13 else b
def m1 (sos : Int) (g : Nat → Int) : Nat → Int
 | 0 => if g 0 = 8 then blank sos else g 0
 | i + 1 => if g (i + 1) = 8 then blank (m1 sos g i) else g (i + 1)
theorem m1_eq (sos : Int) (g : Nat → Int) (k : Nat) : m1 sos g k = if g k = 8 then blank (prev sos (m1 sos g) k) else g k := by cases k <;> rfl
theorem marks_F (sos : Int) (g : Nat → Int) (n : Nat) (hn : n ≤ 4194304) : weak_marks_F (tab n g) sos = some (tab n (m1 sos g), ()) := by
 unfold weak_marks_F weak_marks_T
 rw [tab_len]
 refine Post.run (Post.bnd (count (L := fun s : List Int × Int × Int × Int => weak_marks_L2 s.1 s.2.1 s.2.2.1 s.2.2.2) n (fun k => (tab n (part (m1 sos g) g k), prev sos (m1 sos g) k, (n : Int), (k : Int))) (r := tab n (m1 sos g)) rfl (fun k hk => ?_) ?_) (Post.pure rfl))
 ·dsimp only
  have e := m1_eq sos g k
  unfold weak_marks_L2
  refine Post.brT (decide_eq_true (by omega)) (ptab k rfl hk (ptab k rfl hk ?_))
  rw [part_at]
  refine Post.br (fun h => ?_) (fun h => ?_)
  ·rw [beq_iff_eq] at h
   rw [if_pos h] at e
   have l0 : (0 : Int) ≤ (k : Int) := by omega
   have l1 : (k : Int) < (tab n (part (m1 sos g) g k)).length := by rw [tab_len]; omega
   have l2 : ∀ v, (k : Int) < ((tab n (part (m1 sos g) g k)).set (Int.toNat (k : Int)) v).length := fun v => by rw [List.length_set]; exact l1
   refine ptab k rfl hk (ptab k rfl hk (Post.bnd (iso_F _) (Post.br (fun h1 => ?_) (fun h1 => ?_))))
   ·refine Post.bnd (idx_set_at l0 l1) (Post.bnd (idx_set_at l0 l1) (Post.bnd (idx_set_at l0 (l2 _)) (Post.bnd (idx_set_at l0 (l2 _)) (Post.pure ?_))))
    have hb : blank (prev sos (m1 sos g) k) = 13 := by
     simp only [Bool.or_eq_true, beq_iff_eq] at h1
     unfold blank; rw [if_pos (by omega)]
    rw [toNat_nat, List.set_set, wrap_succ (by omega), part_set n (e.trans hb), show prev sos (m1 sos g) (k + 1) = m1 sos g k from rfl, e, hb]
   ·refine Post.br (fun h2 => ?_) (fun h2 => ?_)
    ·refine Post.bnd (idx_set_at l0 l1) (Post.bnd (idx_set_at l0 l1) (Post.bnd (idx_set_at l0 (l2 _)) (Post.bnd (idx_set_at l0 (l2 _)) (Post.pure ?_))))
     have hb : blank (prev sos (m1 sos g) k) = 13 := by
      rw [beq_iff_eq] at h2
      unfold blank; rw [if_pos (by omega)]
     rw [toNat_nat, List.set_set, wrap_succ (by omega), part_set n (e.trans hb), show prev sos (m1 sos g) (k + 1) = m1 sos g k from rfl, e, hb]
    ·refine Post.bnd (idx_set_at l0 l1) (Post.bnd (idx_set_at l0 l1) (Post.pure ?_))
     have hb : blank (prev sos (m1 sos g) k) = prev sos (m1 sos g) k := by
      simp only [Bool.or_eq_false_iff, beq_eq_false_iff_ne, ne_eq] at h1 h2
      unfold blank; rw [if_neg (by omega)]
     rw [toNat_nat, wrap_succ (by omega), part_set n (e.trans hb), show prev sos (m1 sos g) (k + 1) = m1 sos g k from rfl, e, hb]
  ·rw [beq_eq_false_iff_ne] at h
   rw [if_neg h] at e
   refine ptab k rfl hk (ptab k rfl hk (Post.pure ?_))
   rw [part_at, wrap_succ (by omega), ← part_keep n e, show prev sos (m1 sos g) (k + 1) = m1 sos g k from rfl, e]
 ·dsimp only
  unfold weak_marks_L2
  exact Post.brF (decide_eq_false (by omega)) (Post.pure (by rw [part_end]))
def s2 (sos : Int) (g : Nat → Int) : Nat → Int
 | 0 => sos
 | i + 1 => if g i = 0 ∨ g i = 1 ∨ g i = 2 then g i else s2 sos g i
theorem s2_succ (sos : Int) (g : Nat → Int) (k : Nat) : s2 sos g (k + 1) = if g k = 0 ∨ g k = 1 ∨ g k = 2 then g k else s2 sos g k := rfl
def m2 (sos : Int) (g : Nat → Int) (k : Nat) : Int := if g k = 3 ∧ s2 sos g k = 2 then 6 else g k
theorem arabicNumbers_F (sos : Int) (g : Nat → Int) (n : Nat) (hn : n ≤ 4194304) : weak_arabicNumbers_F (tab n g) sos = some (tab n (m2 sos g), ()) := by
 unfold weak_arabicNumbers_F weak_arabicNumbers_T
 rw [tab_len]
 refine Post.run (Post.bnd (count (L := fun s : List Int × Int × Int × Int => weak_arabicNumbers_L2 s.1 s.2.1 s.2.2.1 s.2.2.2) n (fun k => (tab n (part (m2 sos g) g k), s2 sos g k, (n : Int), (k : Int))) (r := tab n (m2 sos g)) rfl (fun k hk => ?_) ?_) (Post.pure rfl))
 ·dsimp only
  have e : m2 sos g k = if g k = 3 ∧ s2 sos g k = 2 then 6 else g k := rfl
  have f := s2_succ sos g k
  unfold weak_arabicNumbers_L2
  (first | refine Post.brT (by simp only [zA, zB, zC, zD, zE, zF, zG, zH, zI, zJ, zK, zL, zM, zN]; omega) ?_ | refine Post.brF (by simp only [zA, zB, zC, zD, zE, zF, zG, zH, zI, zJ, zK, zL, zM, zN]; omega) ?_)
  (first | refine ptab _ rfl (by omega) ?_ | refine Post.bnd (idx_set_at (by omega) (by simp only [List.length_set, tab_len]; omega)) ?_)
  (first | refine ptab _ rfl (by omega) ?_ | refine Post.bnd (idx_set_at (by omega) (by simp only [List.length_set, tab_len]; omega)) ?_)
  rw [part_at]
  refine Post.bnd (strong_F _) ?_
  by_cases h1 : g k = 0 ∨ g k = 1 ∨ g k = 2
  ·(first | refine Post.brT (by simp only [zA, zB, zC, zD, zE, zF, zG, zH, zI, zJ, zK, zL, zM, zN]; omega) ?_ | refine Post.brF (by simp only [zA, zB, zC, zD, zE, zF, zG, zH, zI, zJ, zK, zL, zM, zN]; omega) ?_)
   rw [if_pos h1] at f
   rw [if_neg (by omega)] at e
   (first | refine Post.brT (by simp only [zA, zB, zC, zD, zE, zF, zG, zH, zI, zJ, zK, zL, zM, zN]; omega) ?_ | refine Post.brF (by simp only [zA, zB, zC, zD, zE, zF, zG, zH, zI, zJ, zK, zL, zM, zN]; omega) ?_)
   exact Post.pure (by rw [wrap_succ (by omega), ← part_keep n e, f])
  ·(first | refine Post.brT (by simp only [zA, zB, zC, zD, zE, zF, zG, zH, zI, zJ, zK, zL, zM, zN]; omega) ?_ | refine Post.brF (by simp only [zA, zB, zC, zD, zE, zF, zG, zH, zI, zJ, zK, zL, zM, zN]; omega) ?_)
   rw [if_neg h1] at f
   by_cases h2 : g k = 3
   ·(first | refine Post.brT (by simp only [zA, zB, zC, zD, zE, zF, zG, zH, zI, zJ, zK, zL, zM, zN]; omega) ?_ | refine Post.brF (by simp only [zA, zB, zC, zD, zE, zF, zG, zH, zI, zJ, zK, zL, zM, zN]; omega) ?_)
    by_cases h3 : s2 sos g k = 2
    ·(first | refine Post.brT (by simp only [zA, zB, zC, zD, zE, zF, zG, zH, zI, zJ, zK, zL, zM, zN]; omega) ?_ | refine Post.brF (by simp only [zA, zB, zC, zD, zE, zF, zG, zH, zI, zJ, zK, zL, zM, zN]; omega) ?_)
     rw [if_pos ⟨h2, h3⟩] at e
     (first | refine ptab _ rfl (by omega) ?_ | refine Post.bnd (idx_set_at (by omega) (by simp only [List.length_set, tab_len]; omega)) ?_)
     (first | refine ptab _ rfl (by omega) ?_ | refine Post.bnd (idx_set_at (by omega) (by simp only [List.length_set, tab_len]; omega)) ?_)
     exact Post.pure (by rw [toNat_nat, wrap_succ (by omega), part_set n e, f])
    ·(first | refine Post.brT (by simp only [zA, zB, zC, zD, zE, zF, zG, zH, zI, zJ, zK, zL, zM, zN]; omega) ?_ | refine Post.brF (by simp only [zA, zB, zC, zD, zE, zF, zG, zH, zI, zJ, zK, zL, zM, zN]; omega) ?_)
     rw [if_neg (by omega)] at e
     exact Post.pure (by rw [wrap_succ (by omega), ← part_keep n e, f])
   ·(first | refine Post.brT (by simp only [zA, zB, zC, zD, zE, zF, zG, zH, zI, zJ, zK, zL, zM, zN]; omega) ?_ | refine Post.brF (by simp only [zA, zB, zC, zD, zE, zF, zG, zH, zI, zJ, zK, zL, zM, zN]; omega) ?_)
    rw [if_neg (by omega)] at e
    exact Post.pure (by rw [wrap_succ (by omega), ← part_keep n e, f])
 ·dsimp only
  unfold weak_arabicNumbers_L2
  (first | refine Post.brT (by simp only [zA, zB, zC, zD, zE, zF, zG, zH, zI, zJ, zK, zL, zM, zN]; omega) ?_ | refine Post.brF (by simp only [zA, zB, zC, zD, zE, zF, zG, zH, zI, zJ, zK, zL, zM, zN]; omega) ?_)
  exact Post.pure (by rw [part_end])
def m3 (g : Nat → Int) (k : Nat) : Int := if g k = 2 then 1 else g k
theorem arabicLetters_F (g : Nat → Int) (n : Nat) (hn : n ≤ 4194304) : weak_arabicLetters_F (tab n g) = some (tab n (m3 g), ()) := by
 unfold weak_arabicLetters_F weak_arabicLetters_T
 rw [tab_len]
 refine Post.run (Post.bnd (count (L := fun s : List Int × Int × Int => weak_arabicLetters_L1 s.1 s.2.1 s.2.2) n (fun k => (tab n (part (m3 g) g k), (n : Int), (k : Int))) (r := tab n (m3 g)) rfl (fun k hk => ?_) ?_) (Post.pure rfl))
 ·dsimp only
  have e : m3 g k = if g k = 2 then 1 else g k := rfl
  unfold weak_arabicLetters_L1
  (first | refine Post.brT (by simp only [zA, zB, zC, zD, zE, zF, zG, zH, zI, zJ, zK, zL, zM, zN]; omega) ?_ | refine Post.brF (by simp only [zA, zB, zC, zD, zE, zF, zG, zH, zI, zJ, zK, zL, zM, zN]; omega) ?_)
  (first | refine ptab _ rfl (by omega) ?_ | refine Post.bnd (idx_set_at (by omega) (by simp only [List.length_set, tab_len]; omega)) ?_)
  (first | refine ptab _ rfl (by omega) ?_ | refine Post.bnd (idx_set_at (by omega) (by simp only [List.length_set, tab_len]; omega)) ?_)
  rw [part_at]
  by_cases h1 : g k = 2
  ·(first | refine Post.brT (by simp only [zA, zB, zC, zD, zE, zF, zG, zH, zI, zJ, zK, zL, zM, zN]; omega) ?_ | refine Post.brF (by simp only [zA, zB, zC, zD, zE, zF, zG, zH, zI, zJ, zK, zL, zM, zN]; omega) ?_)
   rw [if_pos h1] at e
   (first | refine ptab _ rfl (by omega) ?_ | refine Post.bnd (idx_set_at (by omega) (by simp only [List.length_set, tab_len]; omega)) ?_)
   (first | refine ptab _ rfl (by omega) ?_ | refine Post.bnd (idx_set_at (by omega) (by simp only [List.length_set, tab_len]; omega)) ?_)
   exact Post.pure (by rw [toNat_nat, wrap_succ (by omega), part_set n e])
  ·(first | refine Post.brT (by simp only [zA, zB, zC, zD, zE, zF, zG, zH, zI, zJ, zK, zL, zM, zN]; omega) ?_ | refine Post.brF (by simp only [zA, zB, zC, zD, zE, zF, zG, zH, zI, zJ, zK, zL, zM, zN]; omega) ?_)
   rw [if_neg h1] at e
   exact Post.pure (by rw [wrap_succ (by omega), ← part_keep n e])
 ·dsimp only
  unfold weak_arabicLetters_L1
  (first | refine Post.brT (by simp only [zA, zB, zC, zD, zE, zF, zG, zH, zI, zJ, zK, zL, zM, zN]; omega) ?_ | refine Post.brF (by simp only [zA, zB, zC, zD, zE, zF, zG, zH, zI, zJ, zK, zL, zM, zN]; omega) ?_)
  exact Post.pure (by rw [part_end])
def Jn (a b : Int) : Prop := b = 3 ∧ (a = 4 ∨ a = 7) ∨ b = 6 ∧ a = 7
instance (a b : Int) : Decidable (Jn a b) := by unfold Jn; infer_instance
def m4 (n : Nat) (g : Nat → Int) : Nat → Int
 | 0 => g 0
 | i + 1 => if i + 2 < n ∧ g (i + 2) = m4 n g i ∧ Jn (g (i + 1)) (m4 n g i) then m4 n g i else g (i + 1)
theorem m4_eq {sos : Int} (hs : sos = 0 ∨ sos = 1) (n : Nat) (g : Nat → Int) (k : Nat) : m4 n g k = if k + 1 < n ∧ g (k + 1) = prev sos (m4 n g) k ∧ Jn (g k) (prev sos (m4 n g) k) then prev sos (m4 n g) k else g k := by
 cases k with
 | zero =>
  rw [if_neg (fun h => by have h2 : Jn (g 0) sos := h.2.2; unfold Jn at h2; omega)]; rfl
 | succ k => rfl
theorem separators_F (sos : Int) (hs : sos = 0 ∨ sos = 1) (g : Nat → Int) (n : Nat) (hn : n ≤ 4194304) : weak_separators_F (tab n g) sos = some (tab n (m4 n g), ()) := by
 unfold weak_separators_F weak_separators_T
 rw [tab_len]
 refine Post.run (Post.bnd (count (L := fun s : List Int × Int × Int × Int => weak_separators_L2 s.1 s.2.1 s.2.2.1 s.2.2.2) n (fun k => (tab n (part (m4 n g) g k), prev sos (m4 n g) k, (n : Int), (k : Int))) (r := tab n (m4 n g)) rfl (fun k hk => ?_) ?_) (Post.pure rfl))
 ·dsimp only
  have e := m4_eq hs n g k
  have f : prev sos (m4 n g) (k + 1) = m4 n g k := rfl
  unfold weak_separators_L2
  rw [tab_len, wrap_succ (by omega)]
  (first | refine Post.brT (by simp only [zA, zB, zC, zD, zE, zF, zG, zH, zI, zJ, zK, zL, zM, zN]; omega) ?_ | refine Post.brF (by simp only [zA, zB, zC, zD, zE, zF, zG, zH, zI, zJ, zK, zL, zM, zN]; omega) ?_)
  (first | refine ptab _ rfl (by omega) ?_ | refine Post.bnd (idx_set_at (by omega) (by simp only [List.length_set, tab_len]; omega)) ?_)
  (first | refine ptab _ rfl (by omega) ?_ | refine Post.bnd (idx_set_at (by omega) (by simp only [List.length_set, tab_len]; omega)) ?_)
  rw [part_at]
  have keep : m4 n g k = g k → Post (Tr.bnd (idx (tab n (part (m4 n g) g k)) (k : Int)) fun _ => .bnd (idx (tab n (part (m4 n g) g k)) (k : Int)) fun x => .pure (.next (tab n (part (m4 n g) g k), x, (n : Int), ((k + 1 : Nat) : Int)))) (· = (Lap.next (tab n (part (m4 n g) g (k + 1)), prev sos (m4 n g) (k + 1), (n : Int), ((k + 1 : Nat) : Int)) : Lap (List Int × Int × Int × Int) (List Int))) := by
   intro e
   (first | refine ptab _ rfl (by omega) ?_ | refine Post.bnd (idx_set_at (by omega) (by simp only [List.length_set, tab_len]; omega)) ?_)
   (first | refine ptab _ rfl (by omega) ?_ | refine Post.bnd (idx_set_at (by omega) (by simp only [List.length_set, tab_len]; omega)) ?_)
   exact Post.pure (by rw [part_at, ← part_keep n e, f, e])
  by_cases h1 : k + 1 < n
  ·(first | refine Post.brT (by simp only [zA, zB, zC, zD, zE, zF, zG, zH, zI, zJ, zK, zL, zM, zN]; omega) ?_ | refine Post.brF (by simp only [zA, zB, zC, zD, zE, zF, zG, zH, zI, zJ, zK, zL, zM, zN]; omega) ?_)
   refine ptab (k + 1) rfl h1 (ptab (k + 1) rfl h1 ?_)
   rw [part_ge _ _ (by omega)]
   by_cases h2 : g (k + 1) = prev sos (m4 n g) k
   ·refine Post.brT (by rw [beq_iff_eq]; exact h2) (Post.bnd (joins_F _ _) ?_)
    by_cases h3 : Jn (g k) (prev sos (m4 n g) k)
    ·rw [if_pos ⟨h1, h2, h3⟩] at e
     unfold Jn at h3
     (first | refine Post.brT (by simp only [zA, zB, zC, zD, zE, zF, zG, zH, zI, zJ, zK, zL, zM, zN]; omega) ?_ | refine Post.brF (by simp only [zA, zB, zC, zD, zE, zF, zG, zH, zI, zJ, zK, zL, zM, zN]; omega) ?_)
     (first | refine ptab _ rfl (by omega) ?_ | refine Post.bnd (idx_set_at (by omega) (by simp only [List.length_set, tab_len]; omega)) ?_)
     (first | refine ptab _ rfl (by omega) ?_ | refine Post.bnd (idx_set_at (by omega) (by simp only [List.length_set, tab_len]; omega)) ?_)
     (first | refine ptab _ rfl (by omega) ?_ | refine Post.bnd (idx_set_at (by omega) (by simp only [List.length_set, tab_len]; omega)) ?_)
     (first | refine ptab _ rfl (by omega) ?_ | refine Post.bnd (idx_set_at (by omega) (by simp only [List.length_set, tab_len]; omega)) ?_)
     exact Post.pure (by rw [toNat_nat, part_set n e, f, e])
    ·rw [if_neg (fun h => h3 h.2.2)] at e
     unfold Jn at h3
     (first | refine Post.brT (by simp only [zA, zB, zC, zD, zE, zF, zG, zH, zI, zJ, zK, zL, zM, zN]; omega) ?_ | refine Post.brF (by simp only [zA, zB, zC, zD, zE, zF, zG, zH, zI, zJ, zK, zL, zM, zN]; omega) ?_)
     exact keep e
   ·rw [if_neg (fun h => h2 h.2.1)] at e
    refine Post.brF (by rw [beq_eq_false_iff_ne]; exact h2) (keep e)
  ·(first | refine Post.brT (by simp only [zA, zB, zC, zD, zE, zF, zG, zH, zI, zJ, zK, zL, zM, zN]; omega) ?_ | refine Post.brF (by simp only [zA, zB, zC, zD, zE, zF, zG, zH, zI, zJ, zK, zL, zM, zN]; omega) ?_)
   rw [if_neg (fun h => h1 h.1)] at e
   exact keep e
 ·dsimp only
  unfold weak_separators_L2
  (first | refine Post.brT (by simp only [zA, zB, zC, zD, zE, zF, zG, zH, zI, zJ, zK, zL, zM, zN]; omega) ?_ | refine Post.brF (by simp only [zA, zB, zC, zD, zE, zF, zG, zH, zI, zJ, zK, zL, zM, zN]; omega) ?_)
  exact Post.pure (by rw [part_end])
def l5 (sos : Int) (g : Nat → Int) : Nat → Int
 | 0 => sos
 | i + 1 => if g i = 5 then l5 sos g i else g i
theorem l5_succ (sos : Int) (g : Nat → Int) (k : Nat) : l5 sos g (k + 1) = if g k = 5 then l5 sos g k else g k := rfl
def nx5 (g : Nat → Int) : Nat → Nat → Int
 | 0, _ => -1
 | d + 1, i => if g i = 5 then nx5 g d (i + 1) else g i
def r5 (n : Nat) (g : Nat → Int) (i : Nat) : Int := nx5 g (n - i) i
theorem r5_eq (n : Nat) (g : Nat → Int) (i : Nat) : r5 n g i = if i < n then (if g i = 5 then r5 n g (i + 1) else g i) else -1 := by
 unfold r5
 by_cases h : i < n
 ·rw [if_pos h, show n - i = (n - (i + 1)) + 1 by omega]; rfl
 ·rw [if_neg h, show n - i = 0 by omega]; rfl
def m5 (n : Nat) (sos : Int) (g : Nat → Int) (k : Nat) : Int := if g k = 5 ∧ (l5 sos g k = 3 ∨ r5 n g k = 3) then 3 else g k
theorem l5_run {sos : Int} {g : Nat → Int} {a : Nat} : ∀ d : Nat, (∀ i, a ≤ i → i < a + d → g i = 5) → l5 sos g (a + d) = l5 sos g a
 | 0, _ => rfl
 | d + 1, h => by
  rw [show a + (d + 1) = (a + d) + 1 by omega, l5_succ, if_pos (h (a + d) (by omega) (by omega))]
  exact l5_run d fun i h1 h2 => h i h1 (by omega)
theorem r5_run {n : Nat} {g : Nat → Int} {b : Nat} (hb : b ≤ n) : ∀ (d a : Nat), a + d = b → (∀ i, a ≤ i → i < b → g i = 5) → r5 n g a = r5 n g b
 | 0, a, e, _ => by rw [show a = b by omega]
 | d + 1, a, e, h => by
  rw [r5_eq, if_pos (by omega), if_pos (h a (by omega) (by omega))]
  exact r5_run hb d (a + 1) (by omega) fun i h1 h2 => h i (by omega) h2
theorem tL4 (xs : Nat → Int) (n : Nat) (hn : n ≤ 4194304) (b f : Int) (a : Nat) (ha : a ≤ n) : ∃ t : Nat, a ≤ t ∧ t ≤ n ∧ (∀ i, a ≤ i → i < t → xs i = 5) ∧ (t = n ∨ xs t ≠ 5) ∧
  loopW (fun s : List Int × Int × Int × Int => (weak_terminators_L4 s.1 s.2.1 s.2.2.1 s.2.2.2).run) (tab n xs, b, f, (a : Int)) = some (tab n xs, b, f, (t : Int)) := by
 refine Exists.elim (loop_ex (L := fun s : List Int × Int × Int × Int => weak_terminators_L4 s.1 s.2.1 s.2.2.1 s.2.2.2) (fun s => ∃ t : Nat, s = (tab n xs, b, f, (t : Int)) ∧ a ≤ t ∧ t ≤ n ∧ ∀ i, a ≤ i → i < t → xs i = 5) (fun s => n - s.2.2.2.toNat)
  (R := fun r => ∃ t : Nat, r = (tab n xs, b, f, (t : Int)) ∧ a ≤ t ∧ t ≤ n ∧ (∀ i, a ≤ i → i < t → xs i = 5) ∧ (t = n ∨ xs t ≠ 5)) (s0 := (tab n xs, b, f, (a : Int))) (fun s hs => ?_) ⟨a, rfl, by omega, ha, fun i h1 h2 => by omega⟩) (fun r hr => ?_)
 ·obtain ⟨t, rfl, h1, h2, h3⟩ := hs
  dsimp only
  unfold weak_terminators_L4
  rw [tab_len]
  by_cases h : t < n
  ·(first | refine Post.brT (by simp only [zA, zB, zC, zD, zE, zF, zG, zH, zI, zJ, zK, zL, zM, zN]; omega) ?_ | refine Post.brF (by simp only [zA, zB, zC, zD, zE, zF, zG, zH, zI, zJ, zK, zL, zM, zN]; omega) ?_)
   (first | refine ptab _ rfl (by omega) ?_ | refine Post.bnd (idx_set_at (by omega) (by simp only [List.length_set, tab_len]; omega)) ?_)
   (first | refine ptab _ rfl (by omega) ?_ | refine Post.bnd (idx_set_at (by omega) (by simp only [List.length_set, tab_len]; omega)) ?_)
   by_cases h5 : xs t = 5
   ·(first | refine Post.brT (by simp only [zA, zB, zC, zD, zE, zF, zG, zH, zI, zJ, zK, zL, zM, zN]; omega) ?_ | refine Post.brF (by simp only [zA, zB, zC, zD, zE, zF, zG, zH, zI, zJ, zK, zL, zM, zN]; omega) ?_)
    refine Post.pure ⟨⟨t + 1, by rw [wrap_succ (by omega)], by omega, by omega, fun i k1 k2 => ?_⟩, ?_⟩
    ·by_cases e : i = t
     ·rw [e]; exact h5
     ·exact h3 i k1 (by omega)
    ·dsimp only
     rw [wrap_succ (by omega), toNat_nat, toNat_nat]
     omega
   ·(first | refine Post.brT (by simp only [zA, zB, zC, zD, zE, zF, zG, zH, zI, zJ, zK, zL, zM, zN]; omega) ?_ | refine Post.brF (by simp only [zA, zB, zC, zD, zE, zF, zG, zH, zI, zJ, zK, zL, zM, zN]; omega) ?_)
    exact Post.pure ⟨t, rfl, h1, h2, h3, .inr h5⟩
  ·(first | refine Post.brT (by simp only [zA, zB, zC, zD, zE, zF, zG, zH, zI, zJ, zK, zL, zM, zN]; omega) ?_ | refine Post.brF (by simp only [zA, zB, zC, zD, zE, zF, zG, zH, zI, zJ, zK, zL, zM, zN]; omega) ?_)
   exact Post.pure ⟨t, rfl, h1, h2, h3, .inl (by omega)⟩
 ·obtain ⟨h1, t, rfl, k⟩ := hr
  exact ⟨t, k.1, k.2.1, k.2.2.1, k.2.2.2, h1⟩
theorem tL8 (n : Nat) (sos : Int) (g : Nat → Int) (hn : n ≤ 4194304) (b : Int) (a t : Nat) (ha : a ≤ t) (ht : t ≤ n) (hm : ∀ i, a ≤ i → i < t → m5 n sos g i = 3) :
  loopW (fun s : List Int × Int × Int × Int => (weak_terminators_L8 s.1 s.2.1 s.2.2.1 s.2.2.2).run) (tab n (part (m5 n sos g) g a), b, (t : Int), (a : Int)) = some (tab n (part (m5 n sos g) g t), b, (t : Int)) := by
 refine count (L := fun s : List Int × Int × Int × Int => weak_terminators_L8 s.1 s.2.1 s.2.2.1 s.2.2.2) (t - a) (fun k => (tab n (part (m5 n sos g) g (a + k)), b, (t : Int), ((a + k : Nat) : Int))) rfl (fun k hk => ?_) ?_
 ·dsimp only
  unfold weak_terminators_L8
  (first | refine Post.brT (by simp only [zA, zB, zC, zD, zE, zF, zG, zH, zI, zJ, zK, zL, zM, zN]; omega) ?_ | refine Post.brF (by simp only [zA, zB, zC, zD, zE, zF, zG, zH, zI, zJ, zK, zL, zM, zN]; omega) ?_)
  refine ptab (a + k) rfl (by omega) (ptab (a + k) rfl (by omega) (Post.pure ?_))
  rw [toNat_nat, wrap_succ (by omega), part_set n (hm (a + k) (by omega) (by omega))]; rfl
 ·dsimp only
  unfold weak_terminators_L8
  (first | refine Post.brT (by simp only [zA, zB, zC, zD, zE, zF, zG, zH, zI, zJ, zK, zL, zM, zN]; omega) ?_ | refine Post.brF (by simp only [zA, zB, zC, zD, zE, zF, zG, zH, zI, zJ, zK, zL, zM, zN]; omega) ?_)
  rw [show a + (t - a) = t by omega]
  exact Post.pure rfl
theorem part_keeps (n : Nat) {m g : Nat → Int} {a : Nat} : ∀ {d : Nat}, (∀ i, a ≤ i → i < a + d → m i = g i) → tab n (part m g a) = tab n (part m g (a + d))
 | 0, _ => rfl
 | d + 1, h => by
  rw [part_keeps (d := d) n fun i h1 h2 => h i h1 (by omega), show a + (d + 1) = (a + d) + 1 by omega]
  exact part_keep n (h (a + d) (by omega) (by omega))
theorem terminators_F (sos : Int) (g : Nat → Int) (n : Nat) (hn : n ≤ 4194304) : weak_terminators_F (tab n g) sos = some (tab n (m5 n sos g), ()) := by
 unfold weak_terminators_F weak_terminators_T
 refine Post.run (Post.call (R := fun r => r = tab n (m5 n sos g)) (loop_ex (L := fun s : List Int × Int × Int => weak_terminators_L2 s.1 s.2.1 s.2.2) (fun s => ∃ (k : Nat) (b : Int), s = (tab n (part (m5 n sos g) g k), b, (k : Int)) ∧ k ≤ n + 1 ∧ (k ≤ n → b = l5 sos g k)) (fun s => n + 1 - s.2.2.toNat) (fun s hs => ?_) ⟨0, sos, rfl, by omega, fun _ => rfl⟩) (fun r hr => by rw [hr]; exact Post.pure rfl))
 obtain ⟨k, b, rfl, hk, hb⟩ := hs
 dsimp only
 unfold weak_terminators_L2
 rw [tab_len]
 by_cases h : k < n
 ·(first | refine Post.brT (by simp only [zA, zB, zC, zD, zE, zF, zG, zH, zI, zJ, zK, zL, zM, zN]; omega) ?_ | refine Post.brF (by simp only [zA, zB, zC, zD, zE, zF, zG, zH, zI, zJ, zK, zL, zM, zN]; omega) ?_)
  have hb := hb (by omega)
  obtain ⟨t, t1, t2, t3, t4, t5⟩ := tL4 (part (m5 n sos g) g k) n hn b (k : Int) k (by omega)
  refine Post.bnd t5 ?_
  dsimp only
  have g5 : ∀ i, k ≤ i → i < t → g i = 5 := fun i h1 h2 => by have := t3 i h1 h2; rwa [part_ge _ _ h1] at this
  have gt : t = n ∨ g t ≠ 5 := by rwa [part_ge _ _ t1] at t4
  have el : ∀ i, k ≤ i → i ≤ t → l5 sos g i = b := fun i h1 h2 => by
   have := l5_run (sos := sos) (g := g) (a := k) (i - k) (fun j k1 k2 => g5 j k1 (by omega))
   rw [show k + (i - k) = i by omega] at this
   rw [this, hb]
  have er : ∀ i, k ≤ i → i ≤ t → r5 n g i = if t < n then g t else -1 := fun i h1 h2 => by
   rw [r5_run t2 (t - i) i (by omega) (fun j k1 k2 => g5 j (by omega) k2), r5_eq]
   by_cases ht : t < n
   ·rw [if_pos ht, if_pos ht, if_neg (by omega)]
   ·rw [if_neg ht, if_neg ht]
  -- what stands there behind the run
  have fin : ∀ row : List Int, row = tab n (part (m5 n sos g) g t) → Post (Tr.br (decide ((t : Int) < (row.length : Int))) (.bnd (idx row (t : Int)) fun _ => .bnd (idx row (t : Int)) fun x => .pure (.next (row, x, IntKind.i64.wrap ((t : Int) + 1)))) (.pure (.next (row, b, IntKind.i64.wrap ((t : Int) + 1)))))
    (fun l : Lap (List Int × Int × Int) (List Int) => match l with
     | .next s' => (∃ (k : Nat) (b : Int), s' = (tab n (part (m5 n sos g) g k), b, (k : Int)) ∧ k ≤ n + 1 ∧ (k ≤ n → b = l5 sos g k)) ∧ n + 1 - s'.2.2.toNat < n + 1 - k
     | .done r => r = tab n (m5 n sos g)) := by
   rintro row rfl
   rw [tab_len, wrap_succ (by omega)]
   by_cases ht : t < n
   ·(first | refine Post.brT (by simp only [zA, zB, zC, zD, zE, zF, zG, zH, zI, zJ, zK, zL, zM, zN]; omega) ?_ | refine Post.brF (by simp only [zA, zB, zC, zD, zE, zF, zG, zH, zI, zJ, zK, zL, zM, zN]; omega) ?_)
    (first | refine ptab _ rfl (by omega) ?_ | refine Post.bnd (idx_set_at (by omega) (by simp only [List.length_set, tab_len]; omega)) ?_)
    (first | refine ptab _ rfl (by omega) ?_ | refine Post.bnd (idx_set_at (by omega) (by simp only [List.length_set, tab_len]; omega)) ?_)
    rw [part_at]
    have e : m5 n sos g t = g t := if_neg (by omega)
    refine Post.pure ⟨⟨t + 1, g t, by rw [part_keep n e], by omega, fun _ => ?_⟩, ?_⟩
    ·rw [l5_succ, if_neg (by omega)]
    ·dsimp only; rw [toNat_nat]; omega
   ·(first | refine Post.brT (by simp only [zA, zB, zC, zD, zE, zF, zG, zH, zI, zJ, zK, zL, zM, zN]; omega) ?_ | refine Post.brF (by simp only [zA, zB, zC, zD, zE, zF, zG, zH, zI, zJ, zK, zL, zM, zN]; omega) ?_)
    refine Post.pure ⟨⟨t + 1, b, ?_, by omega, fun h => by omega⟩, ?_⟩
    ·rw [show tab n (part (m5 n sos g) g (t + 1)) = tab n (part (m5 n sos g) g t) from tab_congr fun i hi => by rw [part_lt _ _ (by omega), part_lt _ _ (by omega)]]
    ·dsimp only; rw [toNat_nat]; omega
  have loop : (b = 3 ∨ (t < n ∧ g t = 3)) → loopW (fun s : List Int × Int × Int × Int => (weak_terminators_L8 s.1 s.2.1 s.2.2.1 s.2.2.2).run) (tab n (part (m5 n sos g) g k), b, (t : Int), (k : Int)) = some (tab n (part (m5 n sos g) g t), b, (t : Int)) := by
   intro hc
   refine tL8 n sos g hn b k t t1 t2 fun i h1 h2 => ?_
   refine if_pos ⟨g5 i h1 h2, ?_⟩
   rw [el i h1 (by omega), er i h1 (by omega)]
   rcases hc with hc | ⟨c1, c2⟩
   ·exact .inl hc
   ·rw [if_pos c1]; exact .inr c2
  have keep : ¬ (b = 3 ∨ (t < n ∧ g t = 3)) → tab n (part (m5 n sos g) g k) = tab n (part (m5 n sos g) g t) := by
   intro hc
   have := part_keeps n (m := m5 n sos g) (g := g) (a := k) (d := t - k) (fun i h1 h2 => by
    refine if_neg fun hh => hc ?_
    rw [el i h1 (by omega), er i h1 (by omega)] at hh
    rcases hh.2 with h2 | h2
    ·exact .inl h2
    ·by_cases ht : t < n
     ·rw [if_pos ht] at h2; exact .inr ⟨ht, h2⟩
     ·rw [if_neg ht] at h2; omega)
   rwa [show k + (t - k) = t by omega] at this
  by_cases h3 : b = 3
  ·(first | refine Post.brT (by simp only [zA, zB, zC, zD, zE, zF, zG, zH, zI, zJ, zK, zL, zM, zN]; omega) ?_ | refine Post.brF (by simp only [zA, zB, zC, zD, zE, zF, zG, zH, zI, zJ, zK, zL, zM, zN]; omega) ?_)
   refine Post.bnd (loop (.inl h3)) ?_
   exact (fin _ rfl).mono fun l hl => by cases l <;> exact hl
  ·(first | refine Post.brT (by simp only [zA, zB, zC, zD, zE, zF, zG, zH, zI, zJ, zK, zL, zM, zN]; omega) ?_ | refine Post.brF (by simp only [zA, zB, zC, zD, zE, zF, zG, zH, zI, zJ, zK, zL, zM, zN]; omega) ?_)
   rw [tab_len]
   by_cases ht : t < n
   ·(first | refine Post.brT (by simp only [zA, zB, zC, zD, zE, zF, zG, zH, zI, zJ, zK, zL, zM, zN]; omega) ?_ | refine Post.brF (by simp only [zA, zB, zC, zD, zE, zF, zG, zH, zI, zJ, zK, zL, zM, zN]; omega) ?_)
    refine ptab t rfl ht (ptab t rfl ht ?_)
    rw [part_ge _ _ t1]
    by_cases h4 : g t = 3
    ·(first | refine Post.brT (by simp only [zA, zB, zC, zD, zE, zF, zG, zH, zI, zJ, zK, zL, zM, zN]; omega) ?_ | refine Post.brF (by simp only [zA, zB, zC, zD, zE, zF, zG, zH, zI, zJ, zK, zL, zM, zN]; omega) ?_)
     refine Post.bnd (loop (.inr ⟨ht, h4⟩)) ?_
     exact (fin _ rfl).mono fun l hl => by cases l <;> exact hl
    ·(first | refine Post.brT (by simp only [zA, zB, zC, zD, zE, zF, zG, zH, zI, zJ, zK, zL, zM, zN]; omega) ?_ | refine Post.brF (by simp only [zA, zB, zC, zD, zE, zF, zG, zH, zI, zJ, zK, zL, zM, zN]; omega) ?_)
     rw [keep (by omega)]
     have := fin _ rfl
     rw [tab_len] at this
     exact this.mono fun l hl => by cases l <;> exact hl
   ·refine Post.brF (decide_eq_false (by omega)) ?_
    rw [keep (by omega)]
    have := fin _ rfl
    rw [tab_len] at this
    exact this.mono fun l hl => by cases l <;> exact hl
 ·(first | refine Post.brT (by simp only [zA, zB, zC, zD, zE, zF, zG, zH, zI, zJ, zK, zL, zM, zN]; omega) ?_ | refine Post.brF (by simp only [zA, zB, zC, zD, zE, zF, zG, zH, zI, zJ, zK, zL, zM, zN]; omega) ?_)
  exact Post.pure (tab_congr fun i hi => if_pos (by omega))
def m6 (g : Nat → Int) (k : Nat) : Int := if g k = 4 ∨ g k = 5 ∨ g k = 7 then 13 else g k
theorem leftovers_F (g : Nat → Int) (n : Nat) (hn : n ≤ 4194304) : weak_leftovers_F (tab n g) = some (tab n (m6 g), ()) := by
 unfold weak_leftovers_F weak_leftovers_T
 rw [tab_len]
 refine Post.run (Post.bnd (count (L := fun s : List Int × Int × Int => weak_leftovers_L1 s.1 s.2.1 s.2.2) n (fun k => (tab n (part (m6 g) g k), (n : Int), (k : Int))) (r := tab n (m6 g)) rfl (fun k hk => ?_) ?_) (Post.pure rfl))
 ·dsimp only
  have e : m6 g k = if g k = 4 ∨ g k = 5 ∨ g k = 7 then 13 else g k := rfl
  have set : m6 g k = 13 → (Lap.next ((tab n (part (m6 g) g k)).set (Int.toNat (k : Int)) 13, (n : Int), IntKind.i64.wrap ((k : Int) + 1)) : Lap (List Int × Int × Int) (List Int)) = Lap.next (tab n (part (m6 g) g (k + 1)), (n : Int), ((k + 1 : Nat) : Int)) := fun e => by rw [toNat_nat, wrap_succ (by omega), part_set n e]
  unfold weak_leftovers_L1
  (first | refine Post.brT (by simp only [zA, zB, zC, zD, zE, zF, zG, zH, zI, zJ, zK, zL, zM, zN]; omega) ?_ | refine Post.brF (by simp only [zA, zB, zC, zD, zE, zF, zG, zH, zI, zJ, zK, zL, zM, zN]; omega) ?_)
  (first | refine ptab _ rfl (by omega) ?_ | refine Post.bnd (idx_set_at (by omega) (by simp only [List.length_set, tab_len]; omega)) ?_)
  (first | refine ptab _ rfl (by omega) ?_ | refine Post.bnd (idx_set_at (by omega) (by simp only [List.length_set, tab_len]; omega)) ?_)
  rw [part_at]
  by_cases h1 : g k = 4
  ·(first | refine Post.brT (by simp only [zA, zB, zC, zD, zE, zF, zG, zH, zI, zJ, zK, zL, zM, zN]; omega) ?_ | refine Post.brF (by simp only [zA, zB, zC, zD, zE, zF, zG, zH, zI, zJ, zK, zL, zM, zN]; omega) ?_)
   (first | refine ptab _ rfl (by omega) ?_ | refine Post.bnd (idx_set_at (by omega) (by simp only [List.length_set, tab_len]; omega)) ?_)
   (first | refine ptab _ rfl (by omega) ?_ | refine Post.bnd (idx_set_at (by omega) (by simp only [List.length_set, tab_len]; omega)) ?_)
   exact Post.pure (set (by rw [e, if_pos (by omega)]))
  ·(first | refine Post.brT (by simp only [zA, zB, zC, zD, zE, zF, zG, zH, zI, zJ, zK, zL, zM, zN]; omega) ?_ | refine Post.brF (by simp only [zA, zB, zC, zD, zE, zF, zG, zH, zI, zJ, zK, zL, zM, zN]; omega) ?_)
   by_cases h2 : g k = 5
   ·(first | refine Post.brT (by simp only [zA, zB, zC, zD, zE, zF, zG, zH, zI, zJ, zK, zL, zM, zN]; omega) ?_ | refine Post.brF (by simp only [zA, zB, zC, zD, zE, zF, zG, zH, zI, zJ, zK, zL, zM, zN]; omega) ?_)
    (first | refine ptab _ rfl (by omega) ?_ | refine Post.bnd (idx_set_at (by omega) (by simp only [List.length_set, tab_len]; omega)) ?_)
    (first | refine ptab _ rfl (by omega) ?_ | refine Post.bnd (idx_set_at (by omega) (by simp only [List.length_set, tab_len]; omega)) ?_)
    exact Post.pure (set (by rw [e, if_pos (by omega)]))
   ·(first | refine Post.brT (by simp only [zA, zB, zC, zD, zE, zF, zG, zH, zI, zJ, zK, zL, zM, zN]; omega) ?_ | refine Post.brF (by simp only [zA, zB, zC, zD, zE, zF, zG, zH, zI, zJ, zK, zL, zM, zN]; omega) ?_)
    by_cases h3 : g k = 7
    ·(first | refine Post.brT (by simp only [zA, zB, zC, zD, zE, zF, zG, zH, zI, zJ, zK, zL, zM, zN]; omega) ?_ | refine Post.brF (by simp only [zA, zB, zC, zD, zE, zF, zG, zH, zI, zJ, zK, zL, zM, zN]; omega) ?_)
     (first | refine ptab _ rfl (by omega) ?_ | refine Post.bnd (idx_set_at (by omega) (by simp only [List.length_set, tab_len]; omega)) ?_)
     (first | refine ptab _ rfl (by omega) ?_ | refine Post.bnd (idx_set_at (by omega) (by simp only [List.length_set, tab_len]; omega)) ?_)
     exact Post.pure (set (by rw [e, if_pos (by omega)]))
    ·(first | refine Post.brT (by simp only [zA, zB, zC, zD, zE, zF, zG, zH, zI, zJ, zK, zL, zM, zN]; omega) ?_ | refine Post.brF (by simp only [zA, zB, zC, zD, zE, zF, zG, zH, zI, zJ, zK, zL, zM, zN]; omega) ?_)
     exact Post.pure (by rw [wrap_succ (by omega), ← part_keep n (by rw [e, if_neg (by omega)])])
 ·dsimp only
  unfold weak_leftovers_L1
  (first | refine Post.brT (by simp only [zA, zB, zC, zD, zE, zF, zG, zH, zI, zJ, zK, zL, zM, zN]; omega) ?_ | refine Post.brF (by simp only [zA, zB, zC, zD, zE, zF, zG, zH, zI, zJ, zK, zL, zM, zN]; omega) ?_)
  exact Post.pure (by rw [part_end])
def s7 (sos : Int) (g : Nat → Int) : Nat → Int
 | 0 => sos
 | i + 1 => if g i = 0 ∨ g i = 1 then g i else s7 sos g i
theorem s7_succ (sos : Int) (g : Nat → Int) (k : Nat) : s7 sos g (k + 1) = if g k = 0 ∨ g k = 1 then g k else s7 sos g k := rfl
def m7 (sos : Int) (g : Nat → Int) (k : Nat) : Int := if g k = 3 ∧ s7 sos g k = 0 then 0 else g k
theorem s7_s2 (sos : Int) (g : Nat → Int) (h : ∀ i, g i ≠ 2) : ∀ k, s2 sos g k = s7 sos g k
 | 0 => rfl
 | k + 1 => by
  rw [s2_succ, s7_succ, s7_s2 sos g h k]
  have := h k
  by_cases h1 : g k = 0 ∨ g k = 1
  ·rw [if_pos (by omega), if_pos h1]
  ·rw [if_neg (by omega), if_neg h1]
theorem latinNumbers_F (sos : Int) (g : Nat → Int) (n : Nat) (hn : n ≤ 4194304) : weak_latinNumbers_F (tab n g) sos = some (tab n (m7 sos g), ()) := by
 unfold weak_latinNumbers_F weak_latinNumbers_T
 rw [tab_len]
 refine Post.run (Post.bnd (count (L := fun s : List Int × Int × Int × Int => weak_latinNumbers_L2 s.1 s.2.1 s.2.2.1 s.2.2.2) n (fun k => (tab n (part (m7 sos g) g k), s7 sos g k, (n : Int), (k : Int))) (r := tab n (m7 sos g)) rfl (fun k hk => ?_) ?_) (Post.pure rfl))
 ·dsimp only
  have e : m7 sos g k = if g k = 3 ∧ s7 sos g k = 0 then 0 else g k := rfl
  have f := s7_succ sos g k
  unfold weak_latinNumbers_L2
  (first | refine Post.brT (by simp only [zA, zB, zC, zD, zE, zF, zG, zH, zI, zJ, zK, zL, zM, zN]; omega) ?_ | refine Post.brF (by simp only [zA, zB, zC, zD, zE, zF, zG, zH, zI, zJ, zK, zL, zM, zN]; omega) ?_)
  (first | refine ptab _ rfl (by omega) ?_ | refine Post.bnd (idx_set_at (by omega) (by simp only [List.length_set, tab_len]; omega)) ?_)
  (first | refine ptab _ rfl (by omega) ?_ | refine Post.bnd (idx_set_at (by omega) (by simp only [List.length_set, tab_len]; omega)) ?_)
  rw [part_at]
  have keep : ∀ {v : Int}, ¬ (g k = 3 ∧ s7 sos g k = 0) → s7 sos g (k + 1) = v → (Lap.next (tab n (part (m7 sos g) g k), v, (n : Int), IntKind.i64.wrap ((k : Int) + 1)) : Lap (List Int × Int × Int × Int) (List Int)) = Lap.next (tab n (part (m7 sos g) g (k + 1)), s7 sos g (k + 1), (n : Int), ((k + 1 : Nat) : Int)) := fun h1 h2 => by rw [wrap_succ (by omega), ← part_keep n (by rw [e, if_neg h1]), h2]
  by_cases h1 : g k = 0
  ·rw [if_pos (by omega)] at f
   (first | refine Post.brT (by simp only [zA, zB, zC, zD, zE, zF, zG, zH, zI, zJ, zK, zL, zM, zN]; omega) ?_ | refine Post.brF (by simp only [zA, zB, zC, zD, zE, zF, zG, zH, zI, zJ, zK, zL, zM, zN]; omega) ?_)
   (first | refine Post.brT (by simp only [zA, zB, zC, zD, zE, zF, zG, zH, zI, zJ, zK, zL, zM, zN]; omega) ?_ | refine Post.brF (by simp only [zA, zB, zC, zD, zE, zF, zG, zH, zI, zJ, zK, zL, zM, zN]; omega) ?_)
   exact Post.pure (keep (by omega) f)
  ·(first | refine Post.brT (by simp only [zA, zB, zC, zD, zE, zF, zG, zH, zI, zJ, zK, zL, zM, zN]; omega) ?_ | refine Post.brF (by simp only [zA, zB, zC, zD, zE, zF, zG, zH, zI, zJ, zK, zL, zM, zN]; omega) ?_)
   by_cases h2 : g k = 1
   ·rw [if_pos (by omega)] at f
    (first | refine Post.brT (by simp only [zA, zB, zC, zD, zE, zF, zG, zH, zI, zJ, zK, zL, zM, zN]; omega) ?_ | refine Post.brF (by simp only [zA, zB, zC, zD, zE, zF, zG, zH, zI, zJ, zK, zL, zM, zN]; omega) ?_)
    (first | refine Post.brT (by simp only [zA, zB, zC, zD, zE, zF, zG, zH, zI, zJ, zK, zL, zM, zN]; omega) ?_ | refine Post.brF (by simp only [zA, zB, zC, zD, zE, zF, zG, zH, zI, zJ, zK, zL, zM, zN]; omega) ?_)
    exact Post.pure (keep (by omega) f)
   ·rw [if_neg (by omega)] at f
    (first | refine Post.brT (by simp only [zA, zB, zC, zD, zE, zF, zG, zH, zI, zJ, zK, zL, zM, zN]; omega) ?_ | refine Post.brF (by simp only [zA, zB, zC, zD, zE, zF, zG, zH, zI, zJ, zK, zL, zM, zN]; omega) ?_)
    by_cases h3 : g k = 3
    ·(first | refine Post.brT (by simp only [zA, zB, zC, zD, zE, zF, zG, zH, zI, zJ, zK, zL, zM, zN]; omega) ?_ | refine Post.brF (by simp only [zA, zB, zC, zD, zE, zF, zG, zH, zI, zJ, zK, zL, zM, zN]; omega) ?_)
     by_cases h4 : s7 sos g k = 0
     ·(first | refine Post.brT (by simp only [zA, zB, zC, zD, zE, zF, zG, zH, zI, zJ, zK, zL, zM, zN]; omega) ?_ | refine Post.brF (by simp only [zA, zB, zC, zD, zE, zF, zG, zH, zI, zJ, zK, zL, zM, zN]; omega) ?_)
      (first | refine ptab _ rfl (by omega) ?_ | refine Post.bnd (idx_set_at (by omega) (by simp only [List.length_set, tab_len]; omega)) ?_)
      (first | refine ptab _ rfl (by omega) ?_ | refine Post.bnd (idx_set_at (by omega) (by simp only [List.length_set, tab_len]; omega)) ?_)
      exact Post.pure (by rw [toNat_nat, wrap_succ (by omega), part_set n (by rw [e, if_pos ⟨h3, h4⟩]), f])
     ·(first | refine Post.brT (by simp only [zA, zB, zC, zD, zE, zF, zG, zH, zI, zJ, zK, zL, zM, zN]; omega) ?_ | refine Post.brF (by simp only [zA, zB, zC, zD, zE, zF, zG, zH, zI, zJ, zK, zL, zM, zN]; omega) ?_)
      exact Post.pure (keep (by omega) f)
    ·(first | refine Post.brT (by simp only [zA, zB, zC, zD, zE, zF, zG, zH, zI, zJ, zK, zL, zM, zN]; omega) ?_ | refine Post.brF (by simp only [zA, zB, zC, zD, zE, zF, zG, zH, zI, zJ, zK, zL, zM, zN]; omega) ?_)
     exact Post.pure (keep (by omega) f)
 ·dsimp only
  unfold weak_latinNumbers_L2
  (first | refine Post.brT (by simp only [zA, zB, zC, zD, zE, zF, zG, zH, zI, zJ, zK, zL, zM, zN]; omega) ?_ | refine Post.brF (by simp only [zA, zB, zC, zD, zE, zF, zG, zH, zI, zJ, zK, zL, zM, zN]; omega) ?_)
  exact Post.pure (by rw [part_end])
def W (n : Nat) (sos : Int) (g : Nat → Int) : Nat → Int := m7 sos (m6 (m5 n sos (m4 n (m3 (m2 sos (m1 sos g))))))
theorem no2 (n : Nat) (sos : Int) (g : Nat → Int) : ∀ i, m6 (m5 n sos (m4 n (m3 g))) i ≠ 2 := by
 have h3 : ∀ i, m3 g i ≠ 2 := fun i => by unfold m3; split <;> omega
 have h4 : ∀ i, m4 n (m3 g) i ≠ 2 := by
  intro i
  induction i with
  | zero => exact h3 0
  | succ i ih =>
   unfold m4
   split
   ·exact ih
   ·exact h3 _
 intro i
 have h5 : m5 n sos (m4 n (m3 g)) i ≠ 2 := by
  have := h4 i
  unfold m5
  split <;> omega
 unfold m6
 split <;> omega
theorem resolve_F (sos : Int) (hs : sos = 0 ∨ sos = 1) (g : Nat → Int) (n : Nat) (hn : n ≤ 4194304) : weak_Resolve_F (tab n g) sos = some (tab n (W n sos g)) := by
 unfold weak_Resolve_F weak_Resolve_T
 exact Post.run (Post.bnd (clone_F _ (by rw [tab_len]; exact hn)) (Post.bnd (marks_F sos g n hn) (Post.bnd (arabicNumbers_F sos _ n hn) (Post.bnd (arabicLetters_F _ n hn) (Post.bnd (separators_F sos hs _ n hn) (Post.bnd (terminators_F sos _ n hn) (Post.bnd (leftovers_F _ n hn) (Post.bnd (latinNumbers_F sos _ n hn) (Post.pure rfl)))))))))
def Rg (g : Nat → Int) : Prop := ∀ i, 0 ≤ g i ∧ g i ≤ 22
theorem Rg.m1 {g : Nat → Int} {sos : Int} (hs : sos = 0 ∨ sos = 1) (h : Rg g) : Rg (m1 sos g) := by
 intro i
 have hb : ∀ b : Int, 0 ≤ b ∧ b ≤ 22 → 0 ≤ blank b ∧ blank b ≤ 22 := fun b hb => by unfold blank; split <;> omega
 induction i with
 | zero =>
  have := h 0
  rw [m1_eq]
  split
  ·exact hb _ (by show 0 ≤ sos ∧ sos ≤ 22; omega)
  ·exact this
 | succ i ih =>
  have := h (i + 1)
  rw [m1_eq]
  split
  ·exact hb _ ih
  ·exact this
theorem Rg.m2 {g : Nat → Int} {sos : Int} (h : Rg g) : Rg (m2 sos g) := fun i => by have := h i; unfold Go.Proofs.YtenbhmjcoljddaaGreatDoor.Wk.m2; split <;> omega
theorem Rg.m3 {g : Nat → Int} (h : Rg g) : Rg (m3 g) := fun i => by have := h i; unfold Go.Proofs.YtenbhmjcoljddaaGreatDoor.Wk.m3; split <;> omega
theorem Rg.m4 {g : Nat → Int} {n : Nat} (h : Rg g) : Rg (m4 n g) := by
 intro i
 induction i with
 | zero => exact h 0
 | succ i ih =>
  unfold Go.Proofs.YtenbhmjcoljddaaGreatDoor.Wk.m4
  split
  ·exact ih
  ·exact h (i + 1)
theorem Rg.m5 {g : Nat → Int} {n : Nat} {sos : Int} (h : Rg g) : Rg (m5 n sos g) := fun i => by have := h i; unfold Go.Proofs.YtenbhmjcoljddaaGreatDoor.Wk.m5; split <;> omega
theorem Rg.m6 {g : Nat → Int} (h : Rg g) : Rg (m6 g) := fun i => by have := h i; unfold Go.Proofs.YtenbhmjcoljddaaGreatDoor.Wk.m6; split <;> omega
theorem Rg.m7 {g : Nat → Int} {sos : Int} (h : Rg g) : Rg (m7 sos g) := fun i => by have := h i; unfold Go.Proofs.YtenbhmjcoljddaaGreatDoor.Wk.m7; split <;> omega
theorem Rg.W {g : Nat → Int} {n : Nat} {sos : Int} (hs : sos = 0 ∨ sos = 1) (h : Rg g) : Rg (W n sos g) := (((((h.m1 hs).m2).m3).m4).m5).m6.m7
theorem Rg.wide {g : Nat → Int} (h : Rg g) (i : Nat) : 0 ≤ g i ∧ g i ≤ 255 := by have := h i; omega
theorem side_01 (b : Bool) : (if b = true then (1 : Int) else 0) = 0 ∨ (if b = true then (1 : Int) else 0) = 1 := by cases b <;> simp
theorem resolve_list (sos : Int) (hs : sos = 0 ∨ sos = 1) (cs : List Int) (hn : cs.length ≤ 4194304) : weak_Resolve_F cs sos = some (tab cs.length (W cs.length sos fun i => cs.getD i 0)) := by
 have := resolve_F sos hs (fun i => cs.getD i 0) cs.length hn
 rwa [← tab_self] at this
theorem m4_at (n : Nat) (g : Nat → Int) (k : Nat) (h : g k ≠ 4 ∧ g k ≠ 7) : m4 n g k = g k := by
 rw [m4_eq (sos := 0) (.inl rfl)]
 exact if_neg fun hh => by have := hh.2.2; unfold Jn at this; omega
theorem W_keep (n : Nat) (sos : Int) (g : Nat → Int) (k : Nat) (h : g k = 0 ∨ g k = 1 ∨ 8 < g k) : W n sos g k = g k := by
 have a1 : m1 sos g k = g k := by rw [m1_eq, if_neg (by omega)]
 have a2 : m2 sos (m1 sos g) k = g k := by unfold m2; rw [if_neg (by omega), a1]
 have a3 : m3 (m2 sos (m1 sos g)) k = g k := by unfold m3; rw [if_neg (by omega), a2]
 have a4 : m4 n (m3 (m2 sos (m1 sos g))) k = g k := by rw [m4_at _ _ _ (by omega), a3]
 have a5 : m5 n sos (m4 n (m3 (m2 sos (m1 sos g)))) k = g k := by unfold m5; rw [if_neg (by omega), a4]
 have a6 : m6 (m5 n sos (m4 n (m3 (m2 sos (m1 sos g))))) k = g k := by unfold m6; rw [if_neg (by omega), a5]
 unfold W m7
 rw [if_neg (by omega), a6]
theorem W_fix (n : Nat) (sos : Int) (g : Nat → Int) (h : ∀ k, g k = 0 ∨ g k = 1 ∨ 8 < g k) : W n sos g = g := funext fun k => W_keep n sos g k (h k)
end Go.Proofs.YtenbhmjcoljddaaGreatDoor.Wk
