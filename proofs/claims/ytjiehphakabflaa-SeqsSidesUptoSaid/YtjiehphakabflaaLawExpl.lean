/-
  Embeddings, overrides and isolates: the readings as plain recursive functions.
-/
import Derived.Test.YtjiehphakabflaaSh
import Derived.Test.YtjiehphakabflaaEvMath
namespace Go.Proofs.Ytjiehphakabflaa
set_option linter.all false

def iso (c : Int) : Bool := c == 19 || c == 20 || c == 21
theorem isolate_F (c : Int) : bidic_Isolate_F c = some (iso c) := by
  unfold bidic_Isolate_F bidic_Isolate_T iso
  rw [Tr.run_br, Tr.run_br]
  by_cases h1 : c = 19
  · simp [h1, Tr.run_pure]
  · by_cases h2 : c = 20
    · simp [h2, Tr.run_pure]
    · simp [h1, h2, Tr.run_pure]
def strong (c : Int) : Bool := c == 0 || c == 1 || c == 2
theorem strong_F (c : Int) : bidic_Strong_F c = some (strong c) := by
  unfold bidic_Strong_F bidic_Strong_T strong
  rw [Tr.run_br, Tr.run_br]
  by_cases h1 : c = 0
  · simp [h1, Tr.run_pure]
  · by_cases h2 : c = 1
    · simp [h2, Tr.run_pure]
    · simp [h1, h2, Tr.run_pure]

/-- what the first strong class tells, from a depth on -/
def first (inside : Bool) (other : Int) : List Int → Nat → Int
  | [], _ => other
  | c :: r, d => if iso c then first inside other r (d + 1) else if c = 22 ∧ 0 < d then first inside other r (d - 1) else if c = 22 ∧ inside = true then other else
      if strong c = true ∧ d = 0 then (if c = 0 then 0 else 1) else first inside other r d

theorem first_cons (inside : Bool) (other c : Int) (r : List Int) (d : Nat) : first inside other (c :: r) d = if iso c then first inside other r (d + 1) else if c = 22 ∧ 0 < d then first inside other r (d - 1) else if c = 22 ∧ inside = true then other else
      if strong c = true ∧ d = 0 then (if c = 0 then 0 else 1) else first inside other r d := rfl
theorem drop_cons {l : List Int} {k : Nat} (h : k < l.length) : l.drop k = l.getD k 0 :: l.drop (k + 1) := by
  rw [List.drop_eq_getElem_cons h]
  simp [List.getD, h]

theorem first_two (inside : Bool) : ∀ (l : List Int) (d : Nat), first inside 0 l d = 0 ∨ first inside 0 l d = 1
  | [], _ => .inl rfl
  | c :: r, d => by
    rw [first_cons]
    split
    · exact first_two inside r _
    · split
      · exact first_two inside r _
      · split
        · exact .inl rfl
        · split
          · split
            · exact .inl rfl
            · exact .inr rfl
          · exact first_two inside r _


/-! ### what is asked of each FSI -/
/-- whether the first strong class in an isolate is R or AL -/
def val (l : List Int) : Bool := first true 0 l 0 == 1
/-- the same behind each PDI that closes nothing in the list -/
def outs : List Int → List Bool
  | [] => []
  | c :: t => if iso c then (outs t).drop 1 else if c = 22 then val t :: outs t else outs t
theorem outs_cons (c : Int) (t : List Int) : outs (c :: t) = if iso c then (outs t).drop 1 else if c = 22 then val t :: outs t else outs t := rfl
theorem outs_len : ∀ l : List Int, (outs l).length ≤ l.length
  | [] => Nat.le_refl _
  | c :: t => by
    have := outs_len t
    rw [outs_cons]
    repeat' split
    all_goals simp only [List.length_drop, List.length_cons]; omega
theorem val_first (l : List Int) : first true 0 l 0 = if val l then 1 else 0 := by
  unfold val
  rcases first_two true l 0 with h | h <;> rw [h] <;> rfl
theorem first_outs : ∀ (l : List Int) (d : Nat), first true 0 l (d + 1) = if (outs l).getD d false then 1 else 0
  | [], d => by simp [first, outs]
  | c :: t, d => by
    rw [first_cons, outs_cons]
    by_cases h1 : iso c = true
    · have e : ((outs t).drop 1).getD d false = (outs t).getD (d + 1) false := by simp [List.getD, Nat.add_comm]
      rw [if_pos h1, if_pos h1, first_outs t (d + 1), e]
    · rw [if_neg h1, if_neg h1]
      by_cases h2 : c = 22
      · rw [if_pos ⟨h2, by omega⟩, if_pos h2]
        cases d with
        | zero => rw [show 0 + 1 - 1 = 0 from rfl, val_first]; simp [List.getD]
        | succ d => rw [show d + 1 + 1 - 1 = d + 1 by omega, first_outs t d, show (val t :: outs t).getD (d + 1) false = (outs t).getD d false by simp [List.getD]]
      · rw [if_neg (fun h => h2 h.1), if_neg (fun h => h2 h.1), if_neg (fun h => by omega), if_neg h2]
        exact first_outs t d
theorem val_nil : val [] = false := rfl
theorem val_iso {c : Int} {t : List Int} (h : iso c = true) : val (c :: t) = (outs t).getD 0 false := by
  unfold val
  rw [first_cons, if_pos h, first_outs t 0]
  cases (outs t).getD 0 false <;> rfl
theorem val_pdi (t : List Int) : val (22 :: t) = false := rfl
theorem val_strong {c : Int} {t : List Int} (h : strong c = true) (h2 : iso c = false) (h3 : c ≠ 22) : val (c :: t) = (c != 0) := by
  unfold val
  rw [first_cons, if_neg (by simp [h2]), if_neg (fun h => h3 h.1), if_neg (fun h => h3 h.1), if_pos ⟨h, rfl⟩]
  by_cases e : c = 0
  · subst e; rfl
  · rw [if_neg e]
    have : (c != 0) = true := by simpa using e
    rw [this]; rfl
theorem val_else {c : Int} {t : List Int} (h : strong c = false) (h2 : iso c = false) (h3 : c ≠ 22) : val (c :: t) = val t := by
  unfold val
  rw [first_cons, if_neg (by simp [h2]), if_neg (fun h => h3 h.1), if_neg (fun h => h3 h.1), if_neg (by simp [h])]
theorem strong22 : strong 22 = false := rfl
theorem iso_22 {c : Int} (h : iso c = true) : c ≠ 22 := by rintro rfl; cases h

/-- what each place is told -/
def ask (cs : List Int) (k : Nat) : Bool := iso (cs.getD k 0) && val (cs.drop (k + 1))
theorem rightward_F (cs : List Int) (hn : cs.length ≤ 8388608) : explicit_rightward_F cs = some (tab cs.length (ask cs)) := by
  unfold explicit_rightward_F explicit_rightward_T
  refine Post.run (Post.bnd (mk_eq rfl (by omega)) (Post.bnd (count cs.length
    (fun k => (cs, tab cs.length (fun i => if cs.length ≤ i + k then ask cs i else false), val (cs.drop (cs.length - k)), (outs (cs.drop (cs.length - k))).reverse, ((cs.length : Int) - 1 - (k : Int)))) (r := tab cs.length (ask cs)) ?_ (fun k hk => ?_) ?_) (Post.pure rfl)))
  · rw [tab_rep, Nat.sub_zero, List.drop_length, wrap64 (by omega) (by omega)]
    have : tab cs.length (fun i => if cs.length ≤ i + 0 then ask cs i else false) = tab cs.length (fun _ => false) := tab_congr fun i hi => if_neg (by omega)
    rw [this]
    simp [val_nil, outs]
  · dsimp only
    unfold explicit_rightward_L5
    obtain ⟨i, hi⟩ : ∃ i, i = cs.length - (k + 1) := ⟨_, rfl⟩
    have hi2 : cs.length - k = i + 1 := by omega
    have hii : (cs.length : Int) - 1 - (k : Int) = (i : Int) := by omega
    have hil : i < cs.length := by omega
    have hnx : (cs.length : Int) - 1 - ((k + 1 : Nat) : Int) = IntKind.i64.wrap ((i : Int) - 1) := by rw [wrap64 (by omega) (by omega)]; omega
    rw [hii, hi2, hnx, ← hi]
    have hd : cs.drop i = cs.getD i 0 :: cs.drop (i + 1) := drop_cons hil
    have hlen := outs_len (cs.drop (i + 1))
    rw [List.length_drop] at hlen
    have hask : ask cs i = (iso (cs.getD i 0) && val (cs.drop (i + 1))) := rfl
    have same : iso (cs.getD i 0) = false → tab cs.length (fun j => if cs.length ≤ j + k then ask cs j else false) = tab cs.length (fun j => if cs.length ≤ j + (k + 1) then ask cs j else false) := fun h => tab_congr fun j hj => by
      by_cases e : j = i
      · subst e
        rw [if_neg (by omega), if_pos (by omega), hask, h]; rfl
      · by_cases e2 : cs.length ≤ j + k
        · rw [if_pos e2, if_pos (by omega)]
        · rw [if_neg e2, if_neg (by omega)]
    have setd : iso (cs.getD i 0) = true → (tab cs.length (fun j => if cs.length ≤ j + k then ask cs j else false)).set i (val (cs.drop (i + 1))) = tab cs.length (fun j => if cs.length ≤ j + (k + 1) then ask cs j else false) := fun h => by
      rw [tab_set]
      refine tab_congr fun j hj => ?_
      by_cases e : j = i
      · subst e
        rw [if_pos rfl, if_pos (by omega), hask, h]; rfl
      · rw [if_neg e]
        by_cases e2 : cs.length ≤ j + k
        · rw [if_pos e2, if_pos (by omega)]
        · rw [if_neg e2, if_neg (by omega)]
    rw [hd]
    refine Post.brT (decide_eq_true (by omega)) (Post.idx 0 i rfl hil ?_)
    generalize hc : cs.getD i 0 = c at *
    refine Post.br (fun h1 => ?_) (fun h1 => Post.bnd (isolate_F c) (Post.br (fun h2 => ?_) (fun h2 => Post.bnd (strong_F c) (Post.br (fun h3 => Post.pure ?_) (fun h3 => Post.pure ?_)))))
    · have h1 : c = 22 := by simpa using h1
      subst h1
      refine Post.bnd (app_eq (by simp only [List.length_reverse, List.length_cons, List.length_nil]; omega)) (Post.pure ?_)
      rw [same rfl, val_pdi, outs_cons, if_neg (by decide), if_pos rfl, List.reverse_cons]
    · refine ptab i rfl hil ?_
      rw [List.length_reverse, wrap64 (by omega) (by omega), toNat_nat, setd h2, val_iso h2, outs_cons, if_pos h2]
      refine Post.br (fun h3 => ?_) (fun h3 => Post.pure ?_)
      · have h3 : (outs (cs.drop (i + 1))).length - 1 + 1 = (outs (cs.drop (i + 1))).length := by simp only [Bool.or_eq_true, Bool.and_eq_true, beq_iff_eq, bne_iff_ne, decide_eq_true_eq, ne_eq, Bool.not_eq_true', beq_eq_false_iff_ne, bne_eq_false_iff_eq, decide_eq_false_iff_not, Decidable.not_not, Bool.or_eq_false_iff, Bool.and_eq_false_iff, Bool.not_eq_false'] at h3; omega
        cases ho : outs (cs.drop (i + 1)) with
        | nil => rw [ho] at h3; simp at h3
        | cons v os =>
          have e1 : idx (v :: os).reverse (((v :: os).length : Int) - 1) = some v := by
            rw [idx_getD false (k := os.length) (by simp) (by simp), List.reverse_cons]
            simp [List.getD]
          refine Post.bnd e1 (Post.bnd (cut_take (n := os.length) (by simp) (by simp)) (Post.pure ?_))
          rw [List.reverse_cons, List.take_left' (by simp)]
          simp [List.getD]
      · have h3 : outs (cs.drop (i + 1)) = [] := by
          simp only [Bool.or_eq_true, Bool.and_eq_true, beq_iff_eq, bne_iff_ne, decide_eq_true_eq, ne_eq, Bool.not_eq_true', beq_eq_false_iff_ne, bne_eq_false_iff_eq, decide_eq_false_iff_not, Decidable.not_not, Bool.or_eq_false_iff, Bool.and_eq_false_iff, Bool.not_eq_false'] at h3
          exact List.eq_nil_of_length_eq_zero (by omega)
        rw [h3]
        rfl
    · have h1 : c ≠ 22 := by simpa using h1
      rw [same h2, val_strong h3 h2 h1, outs_cons, if_neg (by simp [h2]), if_neg h1]
    · have h1 : c ≠ 22 := by simpa using h1
      rw [same h2, val_else h3 h2 h1, outs_cons, if_neg (by simp [h2]), if_neg h1]
  · dsimp only
    unfold explicit_rightward_L5
    refine Post.brF (decide_eq_false (by omega)) (Post.pure ?_)
    congr 1
    exact tab_congr fun j hj => if_pos (by omega)

end Go.Proofs.Ytjiehphakabflaa
