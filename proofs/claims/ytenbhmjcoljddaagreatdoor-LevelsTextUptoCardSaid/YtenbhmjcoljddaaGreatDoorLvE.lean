import Derived.Test.YtenbhmjcoljddaaGreatDoorSh
import Derived.Test.YtenbhmjcoljddaaGreatDoorEvMath
namespace Go.Proofs.YtenbhmjcoljddaaGreatDoor.Ex
set_option linter.all false
def iso (c : Int) : Bool := c == 19 || c == 20 || c == 21
theorem isolate_F (c : Int) : bidic_Isolate_F c = some (iso c) := by
 unfold bidic_Isolate_F bidic_Isolate_T iso
 rw [Tr.run_br, Tr.run_br]
 by_cases h1 : c = 19
 ·simp [h1, Tr.run_pure]
 ·by_cases h2 : c = 20
  ·simp [h2, Tr.run_pure]
  ·simp [h1, h2, Tr.run_pure]
def strong (c : Int) : Bool := c == 0 || c == 1 || c == 2
theorem strong_F (c : Int) : bidic_Strong_F c = some (strong c) := by
 unfold bidic_Strong_F bidic_Strong_T strong
 rw [Tr.run_br, Tr.run_br]
 by_cases h1 : c = 0
 ·simp [h1, Tr.run_pure]
 ·by_cases h2 : c = 1
  ·simp [h2, Tr.run_pure]
  ·simp [h1, h2, Tr.run_pure]
def first (inside : Bool) (other : Int) : List Int → Nat → Int
 | [], _ => other
 | c :: r, d => if iso c then first inside other r (d + 1) else if c = 22 ∧ 0 < d then first inside other r (d - 1) else if c = 22 ∧ inside = true then other else
   if strong c = true ∧ d = 0 then (if c = 0 then 0 else 1) else first inside other r d
theorem first_cons (inside : Bool) (other c : Int) (r : List Int) (d : Nat) : first inside other (c :: r) d = if iso c then first inside other r (d + 1) else if c = 22 ∧ 0 < d then first inside other r (d - 1) else if c = 22 ∧ inside = true then other else
   if strong c = true ∧ d = 0 then (if c = 0 then 0 else 1) else first inside other r d := rfl
theorem drop_cons {l : List Int} {k : Nat} (h : k < l.length) : l.drop k = l.getD k 0 :: l.drop (k + 1) := by
 rw [List.drop_eq_getElem_cons h]
 simp [List.getD, h]
theorem first_two (inside : Bool) : ∀ (l : List Int) (d : Nat), first inside 0 l d = 0 ∨ first inside 0 l d = 1
 | [], _ => .inl rfl
 | c :: r, d => by
  rw [first_cons]
  split
  ·exact first_two inside r _
  ·split
   ·exact first_two inside r _
   ·split
    ·exact .inl rfl
    ·split
     ·split
      ·exact .inl rfl
      ·exact .inr rfl
     ·exact first_two inside r _
def val (l : List Int) : Bool := first true 0 l 0 == 1
def outs : List Int → List Bool
 | [] => []
 | c :: t => if iso c then (outs t).drop 1 else if c = 22 then val t :: outs t else outs t
theorem outs_cons (c : Int) (t : List Int) : outs (c :: t) = if iso c then (outs t).drop 1 else if c = 22 then val t :: outs t else outs t := rfl
theorem outs_len : ∀ l : List Int, (outs l).length ≤ l.length
 | [] => Nat.le_refl _
 | c :: t => by
  have := outs_len t
  rw [outs_cons]
  repeat' split
  all_goals simp only [List.length_drop, List.length_cons]; omega
theorem val_first (l : List Int) : first true 0 l 0 = if val l then 1 else 0 := by
 unfold val
 rcases first_two true l 0 with h | h <;> rw [h] <;> rfl
theorem first_outs : ∀ (l : List Int) (d : Nat), first true 0 l (d + 1) = if (outs l).getD d false then 1 else 0
 | [], d => by simp [first, outs]
 | c :: t, d => by
  rw [first_cons, outs_cons]
  by_cases h1 : iso c = true
  ·have e : ((outs t).drop 1).getD d false = (outs t).getD (d + 1) false := by simp [List.getD, Nat.add_comm]
   rw [if_pos h1, if_pos h1, first_outs t (d + 1), e]
  ·rw [if_neg h1, if_neg h1]
   by_cases h2 : c = 22
   ·rw [if_pos ⟨h2, by omega⟩, if_pos h2]
    cases d with
    | zero => rw [show 0 + 1 - 1 = 0 from rfl, val_first]; simp [List.getD]
    | succ d => rw [show d + 1 + 1 - 1 = d + 1 by omega, first_outs t d, show (val t :: outs t).getD (d + 1) false = (outs t).getD d false by simp [List.getD]]
   ·rw [if_neg (fun h => h2 h.1), if_neg (fun h => h2 h.1), if_neg (fun h => by omega), if_neg h2]
    exact first_outs t d
theorem val_nil : val [] = false := rfl
theorem val_iso {c : Int} {t : List Int} (h : iso c = true) : val (c :: t) = (outs t).getD 0 false := by
 unfold val
 rw [first_cons, if_pos h, first_outs t 0]
 cases (outs t).getD 0 false <;> rfl
theorem val_pdi (t : List Int) : val (22 :: t) = false := rfl
theorem val_strong {c : Int} {t : List Int} (h : strong c = true) (h2 : iso c = false) (h3 : c ≠ 22) : val (c :: t) = (c != 0) := by
 unfold val
 rw [first_cons, if_neg (by simp [h2]), if_neg (fun h => h3 h.1), if_neg (fun h => h3 h.1), if_pos ⟨h, rfl⟩]
 by_cases e : c = 0
 ·subst e; rfl
 ·rw [if_neg e]
  have : (c != 0) = true := by simpa using e
  rw [this]; rfl
theorem val_else {c : Int} {t : List Int} (h : strong c = false) (h2 : iso c = false) (h3 : c ≠ 22) : val (c :: t) = val t := by
 unfold val
 rw [first_cons, if_neg (by simp [h2]), if_neg (fun h => h3 h.1), if_neg (fun h => h3 h.1), if_neg (by simp [h])]
theorem strong22 : strong 22 = false := rfl
theorem iso_22 {c : Int} (h : iso c = true) : c ≠ 22 := by rintro rfl; cases h
def ask (cs : List Int) (k : Nat) : Bool := iso (cs.getD k 0) && val (cs.drop (k + 1))
theorem rightward_F (cs : List Int) (hn : cs.length ≤ 8388608) : explicit_rightward_F cs = some (tab cs.length (ask cs)) := by
 unfold explicit_rightward_F explicit_rightward_T
 refine Post.run (Post.bnd (mk_eq rfl (by omega)) (Post.bnd (count cs.length
  (fun k => (cs, tab cs.length (fun i => if cs.length ≤ i + k then ask cs i else false), val (cs.drop (cs.length - k)), (outs (cs.drop (cs.length - k))).reverse, ((cs.length : Int) - 1 - (k : Int)))) (r := tab cs.length (ask cs)) ?_ (fun k hk => ?_) ?_) (Post.pure rfl)))
 ·rw [tab_rep, Nat.sub_zero, List.drop_length, wrap64 (by omega) (by omega)]
  have : tab cs.length (fun i => if cs.length ≤ i + 0 then ask cs i else false) = tab cs.length (fun _ => false) := tab_congr fun i hi => if_neg (by omega)
  rw [this]
  simp [val_nil, outs]
 ·dsimp only
  unfold explicit_rightward_L5
  obtain ⟨i, hi⟩ : ∃ i, i = cs.length - (k + 1) := ⟨_, rfl⟩
  have hi2 : cs.length - k = i + 1 := by omega
  have hii : (cs.length : Int) - 1 - (k : Int) = (i : Int) := by omega
  have hil : i < cs.length := by omega
  have hnx : (cs.length : Int) - 1 - ((k + 1 : Nat) : Int) = IntKind.i64.wrap ((i : Int) - 1) := by rw [wrap64 (by omega) (by omega)]; omega
  rw [hii, hi2, hnx, ← hi]
  have hd : cs.drop i = cs.getD i 0 :: cs.drop (i + 1) := drop_cons hil
  have hlen := outs_len (cs.drop (i + 1))
  rw [List.length_drop] at hlen
  have hask : ask cs i = (iso (cs.getD i 0) && val (cs.drop (i + 1))) := rfl
  have same : iso (cs.getD i 0) = false → tab cs.length (fun j => if cs.length ≤ j + k then ask cs j else false) = tab cs.length (fun j => if cs.length ≤ j + (k + 1) then ask cs j else false) := fun h => tab_congr fun j hj => by
   by_cases e : j = i
   ·subst e
    rw [if_neg (by omega), if_pos (by omega), hask, h]; rfl
   ·by_cases e2 : cs.length ≤ j + k
    ·rw [if_pos e2, if_pos (by omega)]
    ·rw [if_neg e2, if_neg (by omega)]
  have setd : iso (cs.getD i 0) = true → (tab cs.length (fun j => if cs.length ≤ j + k then ask cs j else false)).set i (val (cs.drop (i + 1))) = tab cs.length (fun j => if cs.length ≤ j + (k + 1) then ask cs j else false) := fun h => by
   rw [tab_set]
   refine tab_congr fun j hj => ?_
   by_cases e : j = i
   ·subst e
    rw [if_pos rfl, if_pos (by omega), hask, h]; rfl
   ·rw [if_neg e]
    by_cases e2 : cs.length ≤ j + k
    ·rw [if_pos e2, if_pos (by omega)]
    ·rw [if_neg e2, if_neg (by omega)]
  rw [hd]
  refine Post.brT (decide_eq_true (by omega)) (Post.idx 0 i rfl hil ?_)
  generalize hc : cs.getD i 0 = c at *
  refine Post.br (fun h1 => ?_) (fun h1 => Post.bnd (isolate_F c) (Post.br (fun h2 => ?_) (fun h2 => Post.bnd (strong_F c) (Post.br (fun h3 => Post.pure ?_) (fun h3 => Post.pure ?_)))))
  ·have h1 : c = 22 := by simpa using h1
   subst h1
   refine Post.bnd (app_eq (by simp only [List.length_reverse, List.length_cons, List.length_nil]; omega)) (Post.pure ?_)
   rw [same rfl, val_pdi, outs_cons, if_neg (by decide), if_pos rfl, List.reverse_cons]
  ·refine ptab i rfl hil ?_
   rw [List.length_reverse, wrap64 (by omega) (by omega), toNat_nat, setd h2, val_iso h2, outs_cons, if_pos h2]
   refine Post.br (fun h3 => ?_) (fun h3 => Post.pure ?_)
   ·have h3 : (outs (cs.drop (i + 1))).length - 1 + 1 = (outs (cs.drop (i + 1))).length := by simp only [zA, zB, zC, zD, zE, zF, zG, zH, zI, zJ, zK, zL, zM, zN] at h3; omega
    cases ho : outs (cs.drop (i + 1)) with
    | nil => rw [ho] at h3; simp at h3
    | cons v os =>
     have e1 : idx (v :: os).reverse (((v :: os).length : Int) - 1) = some v := by
      rw [idx_getD false (k := os.length) (by simp) (by simp), List.reverse_cons]
      simp [List.getD]
     refine Post.bnd e1 (Post.bnd (cut_take (n := os.length) (by simp) (by simp)) (Post.pure ?_))
     rw [List.reverse_cons, List.take_left' (by simp)]
     simp [List.getD]
   ·have h3 : outs (cs.drop (i + 1)) = [] := by
     simp only [zA, zB, zC, zD, zE, zF, zG, zH, zI, zJ, zK, zL, zM, zN] at h3
     exact List.eq_nil_of_length_eq_zero (by omega)
    rw [h3]
    rfl
  ·have h1 : c ≠ 22 := by simpa using h1
   rw [same h2, val_strong h3 h2 h1, outs_cons, if_neg (by simp [h2]), if_neg h1]
  ·have h1 : c ≠ 22 := by simpa using h1
   rw [same h2, val_else h3 h2 h1, outs_cons, if_neg (by simp [h2]), if_neg h1]
 ·dsimp only
  unfold explicit_rightward_L5
  refine Post.brF (decide_eq_false (by omega)) (Post.pure ?_)
  congr 1
  exact tab_congr fun j hj => if_pos (by omega)
abbrev En := Int × Int × Bool
abbrev Ms := List En × Int × Int × Int
def enc (m : Ms) : Ms := (m.1.reverse, m.2.1, m.2.2.1, m.2.2.2)
def hd (m : Ms) : En := m.1.headD (0, 13, false)
theorem last_idx {α : Type} (x : α) (r : List α) (hn : r.length ≤ 8388608) : idx (x :: r).reverse (IntKind.i64.wrap (((x :: r).reverse.length : Int) - 1)) = some x := by
 have e : IntKind.i64.wrap (((x :: r).reverse.length : Int) - 1) = (r.length : Int) := by
  rw [List.length_reverse, List.length_cons, wrap64 (by omega) (by omega)]; omega
 rw [e, idx_getD x (k := r.length) rfl (by simp)]
 simp [List.getD]
theorem last_cut {α : Type} (x : α) (r : List α) (hn : r.length ≤ 8388608) : cut (x :: r).reverse 0 (IntKind.i64.wrap (((x :: r).reverse.length : Int) - 1)) = some r.reverse := by
 have e : IntKind.i64.wrap (((x :: r).reverse.length : Int) - 1) = (r.length : Int) := by
  rw [List.length_reverse, List.length_cons, wrap64 (by omega) (by omega)]; omega
 rw [e, cut_take (n := r.length) rfl (by simp), List.reverse_cons, List.take_left' (by simp)]
structure Good (N : Nat) (m : Ms) : Prop where
 bot : ∃ l b, m.1 = l ++ [b] ∧ b.2.2 = false
 lev : ∀ x ∈ m.1, 0 ≤ x.1 ∧ x.1 ≤ 125
 ovr : ∀ x ∈ m.1, x.2.1 = 13 ∨ x.2.1 = 0 ∨ x.2.1 = 1
 cnt : (m.1.countP (fun x => x.2.2) : Int) = m.2.2.2
 iso : 0 ≤ m.2.1 ∧ m.2.1 ≤ N
 emb : 0 ≤ m.2.2.1 ∧ m.2.2.1 ≤ N
 len : m.1.length ≤ N + 1
theorem Good.opn {N : Nat} {m : Ms} (h : Good N m) : 0 ≤ m.2.2.2 ∧ m.2.2.2 ≤ N + 1 := by
 have h1 := h.cnt
 have h2 := List.countP_le_length (p := fun x : En => x.2.2) (l := m.1)
 have h3 := h.len
 omega
theorem Good.cons {N : Nat} {m : Ms} (h : Good N m) : ∃ r, m.1 = hd m :: r := by
 obtain ⟨l, b, e, _⟩ := h.bot
 unfold hd
 rw [e]
 cases l with
 | nil => exact ⟨[], rfl⟩
 | cons a l => exact ⟨l ++ [b], rfl⟩
theorem Good.top {N : Nat} {m : Ms} (h : Good N m) : 0 ≤ (hd m).1 ∧ (hd m).1 ≤ 125 := by
 obtain ⟨r, e⟩ := h.cons
 exact h.lev _ (by rw [e]; exact List.mem_cons_self)
theorem Good.topo {N : Nat} {m : Ms} (h : Good N m) : (hd m).2.1 = 13 ∨ (hd m).2.1 = 0 ∨ (hd m).2.1 = 1 := by
 obtain ⟨r, e⟩ := h.cons
 exact h.ovr _ (by rw [e]; exact List.mem_cons_self)
theorem top_F {N : Nat} {m : Ms} (h : Good N m) (hN : N ≤ 4194304) : explicit_state_top_F (enc m) = some (enc m, hd m) := by
 obtain ⟨r, e⟩ := h.cons
 have hl := h.len
 rw [e, List.length_cons] at hl
 unfold explicit_state_top_F explicit_state_top_T
 refine Post.run (Post.bnd (b := hd m) ?_ (Post.pure rfl))
 show idx m.1.reverse (IntKind.i64.wrap ((m.1.reverse.length : Int) - 1)) = some (hd m)
 rw [e]
 exact last_idx _ _ (by omega)
def nx (l : Int) (right : Bool) : Int := if (l % 2 = 0) = (right = true) then l + 1 else l + 2
theorem nx_or : ∀ n : Fin 126, ibits .or .i64 (IntKind.i64.wrap ((n.1 : Int) + 1)) 1 = nx n.1 true := by decide +kernel
theorem nx_andNot : ∀ n : Fin 126, ibits .andNot .i64 (IntKind.i64.wrap ((n.1 : Int) + 2)) 1 = nx n.1 false := by decide +kernel
theorem nx_le (l : Int) (right : Bool) (h : 0 ≤ l) : l < nx l right ∧ nx l right ≤ l + 2 := by
 unfold nx; split <;> omega
theorem next_F {N : Nat} {m : Ms} (h : Good N m) (hN : N ≤ 4194304) (right : Bool) : explicit_state_next_F (enc m) right = some (enc m, nx (hd m).1 right) := by
 have ht := h.top
 have hf : ((hd m).1.toNat : Int) = (hd m).1 := by omega
 have h1 := nx_or ⟨(hd m).1.toNat, by omega⟩
 have h2 := nx_andNot ⟨(hd m).1.toNat, by omega⟩
 dsimp only at h1 h2
 rw [hf] at h1 h2
 unfold explicit_state_next_F explicit_state_next_T
 refine Post.run ?_
 cases right
 ·refine Post.brF rfl (Post.bnd (top_F h hN) (Post.pure ?_))
  dsimp only
  rw [h2]
 ·refine Post.brT rfl (Post.bnd (top_F h hN) (Post.pure ?_))
  dsimp only
  rw [h1]
def fit (m : Ms) (l : Int) : Bool := decide (l ≤ 125) && (m.2.1 == 0 && m.2.2.1 == 0)
theorem box0 {α : Type} (x : α) : idx [x] 0 = some x := rfl
theorem fits_F (m : Ms) (l : Int) : explicit_state_fits_F (enc m) l = some (enc m, fit m l) := by
 unfold explicit_state_fits_F explicit_state_fits_T fit
 refine Post.run (Post.br (fun h => Post.bnd (box0 _) (Post.br (fun h2 => Post.bnd (box0 _) (Post.pure ?_)) (fun h2 => Post.pure ?_))) (fun h => Post.pure ?_))
 ·have h2 : (m.2.1 == 0) = true := h2
  rw [h, h2]
  rfl
 ·have h2 : (m.2.1 == 0) = false := h2
  rw [h, h2]
  rfl
 ·rw [h]
  rfl
theorem push_F {N : Nat} {m : Ms} (h : Good N m) (hN : N ≤ 4194304) (x : En) : explicit_state_push_F (enc m) x = some (enc (x :: m.1, m.2), ()) := by
 have hl := h.len
 unfold explicit_state_push_F explicit_state_push_T
 refine Post.run (Post.bnd (app_eq (by simp only [enc, List.length_reverse, List.length_cons, List.length_nil]; omega)) (Post.pure ?_))
 simp [enc]
def ov (c : Int) : Int := if c = 17 then 1 else if c = 15 then 0 else 13
theorem override_F (c : Int) : explicit_override_F c = some (ov c) := by
 unfold explicit_override_F explicit_override_T ov
 simp only [Tr.run_br, Tr.run_pure, beq_iff_eq]
 repeat' split
 all_goals rfl
def embed (c : Int) (m : Ms) : Ms := if fit m (nx (hd m).1 (c == 16 || c == 17)) then ((nx (hd m).1 (c == 16 || c == 17), ov c, false) :: m.1, m.2) else if m.2.1 = 0 then (m.1, m.2.1, m.2.2.1 + 1, m.2.2.2) else m
theorem embed_F {N : Nat} {m : Ms} (h : Good N m) (hN : N ≤ 4194304) (c : Int) : explicit_state_embed_F (enc m) c = some (enc (embed c m), ()) := by
 have h3 := h.emb
 have key : ∀ right : Bool, (c == 16 || c == 17) = right → Post
   (.bnd (explicit_state_next_F ((enc m).1, (enc m).2.1, (enc m).2.2.1, (enc m).2.2.2) right) fun c_1 =>
  .bnd (explicit_state_fits_F (c_1.1.1, c_1.1.2.1, c_1.1.2.2.1, c_1.1.2.2.2) c_1.2) fun c_2 =>
  .br c_2.2 (
   .bnd (explicit_override_F c) fun c_3 =>
   .bnd (explicit_state_push_F (c_2.1.1, c_2.1.2.1, c_2.1.2.2.1, c_2.1.2.2.2) (c_1.2, c_3, false)) fun c_4 =>
   .pure ((c_4.1.1, c_4.1.2.1, c_4.1.2.2.1, c_4.1.2.2.2), ())) (
   .bnd (idx ([((), c_2.1.2.1, c_2.1.2.2.1, c_2.1.2.2.2)]) 0) fun x_5 =>
   .br (x_5.2.1 == 0) (
    .bnd (idx ([((), c_2.1.2.1, c_2.1.2.2.1, c_2.1.2.2.2)]) 0) fun x_6 =>
    .bnd (idx ([((), c_2.1.2.1, c_2.1.2.2.1, c_2.1.2.2.2)]) 0) fun x_7 =>
    .pure ((c_2.1.1, x_7.2.1, IntKind.i64.wrap (x_6.2.2.1 + 1), x_7.2.2.2), ())) (
    .pure ((c_2.1.1, c_2.1.2.1, c_2.1.2.2.1, c_2.1.2.2.2), ()))) : Tr (((List (Int × Int × Bool)) × Int × Int × Int) × Unit)) (· = (enc (embed c m), ())) := by
  intro right hr
  unfold embed
  rw [hr]
  refine Post.bnd (next_F h hN right) (Post.bnd (fits_F m _) (Post.br (fun h1 => Post.bnd (override_F c) (Post.bnd (push_F h hN _) (Post.pure ?_))) (fun h1 => Post.bnd (box0 _) (Post.br (fun h2 => Post.bnd (box0 _) (Post.bnd (box0 _) (Post.pure ?_))) (fun h2 => Post.pure ?_)))))
  ·rw [if_pos h1]
  ·have h2 : (m.2.1 == 0) = true := h2
   have h2 : m.2.1 = 0 := by simpa using h2
   have h1 : fit m (nx (hd m).1 right) = false := h1
   rw [if_neg (by simp [h1]), if_pos h2]
   show ((m.1.reverse, m.2.1, IntKind.i64.wrap (m.2.2.1 + 1), m.2.2.2), ()) = _
   rw [wrap64 (by omega) (by omega)]
   rfl
  ·have h2 : (m.2.1 == 0) = false := h2
   have h2 : ¬ m.2.1 = 0 := by simpa using h2
   have h1 : fit m (nx (hd m).1 right) = false := h1
   rw [if_neg (by simp [h1]), if_neg h2]
 unfold explicit_state_embed_F explicit_state_embed_T
 refine Post.run (Post.br (fun h1 => ?_) (fun h1 => ?_))
 ·exact key true (by rw [h1]; rfl)
 ·exact key (c == 17) (by rw [h1]; rfl)
def und (m : Ms) (c : Int) : Int := if (hd m).2.1 = 13 then c else (hd m).2.1
theorem under_F {N : Nat} {m : Ms} (h : Good N m) (hN : N ≤ 4194304) (c : Int) : explicit_state_under_F (enc m) c = some (enc m, und m c) := by
 unfold explicit_state_under_F explicit_state_under_T und
 refine Post.run (Post.bnd (top_F h hN) (Post.br (fun h1 => Post.pure ?_) (fun h1 => Post.bnd (top_F h hN) (Post.pure ?_))))
 ·rw [if_pos (by simpa using h1)]
 ·rw [if_neg (by simpa using h1)]
def enter (right : Bool) (m : Ms) : Ms := if fit m (nx (hd m).1 right) then ((nx (hd m).1 right, 13, true) :: m.1, m.2.1, m.2.2.1, m.2.2.2 + 1) else (m.1, m.2.1 + 1, m.2.2.1, m.2.2.2)
theorem enter_F {N : Nat} {m : Ms} (h : Good N m) (hN : N ≤ 4194304) (right : Bool) : explicit_state_enter_F (enc m) right = some (enc (enter right m), ()) := by
 have h3 := h.iso
 have h4 := h.opn
 have hl := h.len
 unfold explicit_state_enter_F explicit_state_enter_T enter
 refine Post.run (Post.bnd (next_F h hN right) (Post.bnd (fits_F m _) (Post.br (fun h1 => Post.bnd (box0 _) (Post.bnd (box0 _) (Post.bnd (b := (enc ((nx (hd m).1 right, 13, true) :: m.1, m.2.1, m.2.2.1, m.2.2.2 + 1), ())) ?_ (Post.pure ?_)))) (fun h1 => Post.bnd (box0 _) (Post.bnd (box0 _) (Post.pure ?_))))))
 ·show explicit_state_push_F (m.1.reverse, m.2.1, m.2.2.1, IntKind.i64.wrap (m.2.2.2 + 1)) (nx (hd m).1 right, 13, true) = _
  rw [wrap64 (by omega) (by omega)]
  unfold explicit_state_push_F explicit_state_push_T
  refine Post.run (Post.bnd (app_eq (by simp only [List.length_reverse, List.length_cons, List.length_nil]; omega)) (Post.pure ?_))
  simp [enc]
 ·rw [if_pos h1]
 ·have h1 : fit m (nx (hd m).1 right) = false := h1
  rw [if_neg (by simp [h1])]
  show ((m.1.reverse, IntKind.i64.wrap (m.2.1 + 1), m.2.2.1, m.2.2.2), ()) = _
  rw [wrap64 (by omega) (by omega)]
  rfl
theorem pop_F (x : En) (r : List En) (q : Int × Int × Int) (hn : r.length ≤ 8388608) : explicit_state_pop_F (enc (x :: r, q)) = some (enc (r, q), ()) := by
 unfold explicit_state_pop_F explicit_state_pop_T
 refine Post.run (Post.bnd (b := r.reverse) (last_cut x r hn) (Post.pure rfl))
def dw (l : List En) : List En := l.dropWhile fun x => !x.2.2
theorem dw_cons (x : En) (r : List En) : dw (x :: r) = if x.2.2 then x :: r else dw r := by
 unfold dw
 rw [List.dropWhile_cons]
 cases x.2.2 <;> rfl
theorem dw_spec {b : En} (hb : b.2.2 = false) : ∀ l : List En, 0 < (l ++ [b]).countP (fun x => x.2.2) → ∃ y l', dw (l ++ [b]) = y :: (l' ++ [b]) ∧ y.2.2 = true ∧ (l' ++ [b]).countP (fun x => x.2.2) + 1 = (l ++ [b]).countP (fun x => x.2.2) ∧ (∀ x ∈ l' ++ [b], x ∈ l ++ [b]) ∧ l'.length ≤ l.length
 | [], h => by simp [hb] at h
 | a :: l, h => by
  rw [List.cons_append, dw_cons]
  by_cases ha : a.2.2 = true
  ·rw [if_pos ha]
   exact ⟨a, l, rfl, ha, by rw [List.countP_cons_of_pos (by simpa using ha)], fun x hx => List.mem_cons_of_mem _ hx, by simp⟩
  ·rw [if_neg ha]
   have e : (a :: (l ++ [b])).countP (fun x => x.2.2) = (l ++ [b]).countP (fun x => x.2.2) := List.countP_cons_of_neg (by simpa using ha)
   rw [List.cons_append, e] at h
   obtain ⟨y, l', h1, h2, h3, h4, h5⟩ := dw_spec hb l h
   refine ⟨y, l', h1, h2, by rw [e]; exact h3, fun x hx => List.mem_cons_of_mem _ (h4 x hx), by simp only [List.length_cons]; omega⟩
theorem popLoop (q : Int × Int × Int) : ∀ (l : List En) {y : En} {r : List En}, l.length ≤ 4194304 → dw l = y :: r → loopW (fun s => (explicit_state_leave_L4 s).run) (enc (l, q)) = some (enc (y :: r, q))
 | [], _, _, _, h => by cases h
 | x :: l, y, r, hn, h => by
  rw [List.length_cons] at hn
  have ht : explicit_state_top_F (enc (x :: l, q)) = some (enc (x :: l, q), x) := by
   unfold explicit_state_top_F explicit_state_top_T
   exact Post.run (Post.bnd (b := x) (last_idx x l (by omega)) (Post.pure rfl))
  rw [dw_cons] at h
  by_cases hx : x.2.2 = true
  ·rw [if_pos hx] at h
   injection h with h1 h2
   subst h1 h2
   refine loopW_done (r := enc (x :: l, q)) (Post.run ?_)
   unfold explicit_state_leave_L4
   exact Post.bnd ht (Post.brF (by simp [hx]) (Post.pure rfl))
  ·rw [if_neg hx] at h
   refine loopW_next (s' := enc (l, q)) (Post.run ?_) (popLoop q l (by omega) h)
   unfold explicit_state_leave_L4
   exact Post.bnd ht (Post.brT (by simp [hx]) (Post.bnd (pop_F x l q (by omega)) (Post.pure rfl)))
def leave (m : Ms) : Ms := if 0 < m.2.1 then (m.1, m.2.1 - 1, m.2.2.1, m.2.2.2) else if m.2.2.2 = 0 then m else ((dw m.1).drop 1, m.2.1, 0, m.2.2.2 - 1)
theorem leave_F {N : Nat} {m : Ms} (h : Good N m) (hN : N ≤ 4194303) : explicit_state_leave_F (enc m) = some (enc (leave m), ()) := by
 have h3 := h.iso
 have h4 := h.opn
 have hl := h.len
 unfold explicit_state_leave_F explicit_state_leave_T leave
 refine Post.run (Post.bnd (box0 _) (Post.br (fun h1 => Post.bnd (box0 _) (Post.bnd (box0 _) (Post.pure ?_))) (fun h1 => Post.bnd (box0 _) (Post.br (fun h2 => Post.pure ?_) (fun h2 => Post.bnd (box0 _) ?_)))))
 ·have h1 : decide (m.2.1 > 0) = true := h1
  have h1 : m.2.1 > 0 := by simpa using h1
  rw [if_pos h1]
  show ((m.1.reverse, IntKind.i64.wrap (m.2.1 - 1), m.2.2.1, m.2.2.2), ()) = _
  rw [wrap64 (by omega) (by omega)]
  rfl
 ·have h1 : decide (m.2.1 > 0) = false := h1
  have h1 : ¬ m.2.1 > 0 := by simpa using h1
  have h2 : (m.2.2.2 == 0) = true := h2
  rw [if_neg h1, if_pos (by simpa using h2)]
 ·have h1 : decide (m.2.1 > 0) = false := h1
  have h1 : ¬ m.2.1 > 0 := by simpa using h1
  have h2 : (m.2.2.2 == 0) = false := h2
  have h2 : ¬ m.2.2.2 = 0 := by simpa using h2
  rw [if_neg h1, if_neg h2]
  obtain ⟨l, b, e, hb⟩ := h.bot
  have hc := h.cnt
  rw [e] at hc
  obtain ⟨y, l', d1, d2, d3, d4, d5⟩ := dw_spec hb l (by omega)
  have hll : l.length + 1 ≤ N + 1 := by rw [e] at hl; simpa using hl
  rw [← e] at d1
  refine Post.bnd (b := enc (y :: (l' ++ [b]), m.2.1, 0, m.2.2.2)) (popLoop (m.2.1, 0, m.2.2.2) m.1 (by omega) d1) (Post.bnd (pop_F y (l' ++ [b]) (m.2.1, 0, m.2.2.2) (by simp; omega)) (Post.bnd (box0 _) (Post.bnd (box0 _) (Post.pure ?_))))
  show (((l' ++ [b]).reverse, m.2.1, 0, IntKind.i64.wrap (m.2.2.2 - 1)), ()) = _
  rw [d1, wrap64 (by omega) (by omega)]
  rfl
def finish (m : Ms) : Ms := if 0 < m.2.1 then m else if 0 < m.2.2.1 then (m.1, m.2.1, m.2.2.1 - 1, m.2.2.2) else if (hd m).2.2 = false ∧ 1 < m.1.length then (m.1.drop 1, m.2) else m
theorem end_F {N : Nat} {m : Ms} (h : Good N m) (hN : N ≤ 4194303) : explicit_state_end_F (enc m) = some (enc (finish m), ()) := by
 have h3 := h.emb
 have hl := h.len
 obtain ⟨r, e⟩ := h.cons
 unfold explicit_state_end_F explicit_state_end_T finish
 refine Post.run (Post.bnd (box0 _) (Post.br (fun h1 => Post.pure ?_) (fun h1 => Post.bnd (box0 _) (Post.br (fun h2 => Post.bnd (box0 _) (Post.bnd (box0 _) (Post.pure ?_))) (fun h2 => Post.bnd (top_F h (by omega)) (Post.br (fun h4 => Post.br (fun h5 => Post.bnd (b := (enc (r, m.2), ())) ?_ (Post.pure ?_)) (fun h5 => Post.pure ?_)) (fun h4 => Post.pure ?_)))))))
 ·have h1 : decide (m.2.1 > 0) = true := h1
  rw [if_pos (by simpa using h1)]
 ·have h1 : decide (m.2.1 > 0) = false := h1
  have h2 : decide (m.2.2.1 > 0) = true := h2
  have h2 : m.2.2.1 > 0 := by simpa using h2
  rw [if_neg (by simpa using h1), if_pos h2]
  show ((m.1.reverse, m.2.1, IntKind.i64.wrap (m.2.2.1 - 1), m.2.2.2), ()) = _
  rw [wrap64 (by omega) (by omega)]
  rfl
 ·have := pop_F (hd m) r m.2 (by rw [e] at hl; simp at hl; omega)
  rw [← e] at this
  exact this
 ·have h1 : decide (m.2.1 > 0) = false := h1
  have h2 : decide (m.2.2.1 > 0) = false := h2
  have h4 : (!(hd m).2.2) = true := h4
  have h5 : decide ((m.1.reverse.length : Int) > 1) = true := h5
  rw [List.length_reverse] at h5
  rw [if_neg (by simpa using h1), if_neg (by simpa using h2), if_pos ⟨by simpa using h4, by simp at h5; omega⟩]
  rw [show m.1.drop 1 = r by rw [e]; rfl]
 ·have h1 : decide (m.2.1 > 0) = false := h1
  have h2 : decide (m.2.2.1 > 0) = false := h2
  have h5 : decide ((m.1.reverse.length : Int) > 1) = false := h5
  rw [List.length_reverse] at h5
  rw [if_neg (by simpa using h1), if_neg (by simpa using h2), if_neg (fun h => by simp at h5; omega)]
 ·have h1 : decide (m.2.1 > 0) = false := h1
  have h2 : decide (m.2.2.1 > 0) = false := h2
  have h4 : (!(hd m).2.2) = false := h4
  rw [if_neg (by simpa using h1), if_neg (by simpa using h2), if_neg (fun h => by rw [h.1] at h4; cases h4)]
def stp (c : Int) (right : Bool) (m : Ms) : Ms := if 14 ≤ c ∧ c ≤ 17 then embed c m else if iso c then enter (c == 20 || (c == 21 && right)) m else if c = 22 then leave m else if c = 18 then finish m else m
theorem embed_good {N : Nat} {m : Ms} (h : Good N m) (c : Int) : Good (N + 1) (embed c m) := by
 obtain ⟨l, b, e, hb⟩ := h.bot
 have h1 := h.iso; have h2 := h.emb; have h3 := h.len
 have ht := h.top
 unfold embed
 split
 ·rename_i hf
  unfold fit at hf
  simp only [Bool.and_eq_true, decide_eq_true_eq] at hf
  have hn := nx_le (hd m).1 (c == 16 || c == 17) ht.1
  refine ⟨⟨(nx (hd m).1 (c == 16 || c == 17), ov c, false) :: l, b, by dsimp only; rw [e]; rfl, hb⟩, fun x hx => ?_, fun x hx => ?_, ?_, by dsimp only; omega, by dsimp only; omega, by simp only [List.length_cons]; omega⟩
  ·rcases List.mem_cons.1 hx with rfl | hx
   ·exact ⟨by dsimp only; omega, hf.1⟩
   ·exact h.lev x hx
  ·rcases List.mem_cons.1 hx with rfl | hx
   ·show ov c = 13 ∨ ov c = 0 ∨ ov c = 1
    unfold ov
    repeat' split
    all_goals simp
   ·exact h.ovr x hx
  ·rw [List.countP_cons_of_neg (by simp)]; exact h.cnt
 ·split
  ·exact ⟨⟨l, b, e, hb⟩, h.lev, h.ovr, h.cnt, by dsimp only; omega, by dsimp only; omega, by dsimp only; omega⟩
  ·exact ⟨⟨l, b, e, hb⟩, h.lev, h.ovr, h.cnt, by omega, by omega, by omega⟩
theorem enter_good {N : Nat} {m : Ms} (h : Good N m) (right : Bool) : Good (N + 1) (enter right m) := by
 obtain ⟨l, b, e, hb⟩ := h.bot
 have h1 := h.iso; have h2 := h.emb; have h3 := h.len
 have ht := h.top
 unfold enter
 split
 ·rename_i hf
  unfold fit at hf
  simp only [Bool.and_eq_true, decide_eq_true_eq] at hf
  have hn := nx_le (hd m).1 right ht.1
  refine ⟨⟨(nx (hd m).1 right, 13, true) :: l, b, by dsimp only; rw [e]; rfl, hb⟩, fun x hx => ?_, fun x hx => ?_, ?_, by dsimp only; omega, by dsimp only; omega, by simp only [List.length_cons]; omega⟩
  ·rcases List.mem_cons.1 hx with rfl | hx
   ·exact ⟨by dsimp only; omega, hf.1⟩
   ·exact h.lev x hx
  ·rcases List.mem_cons.1 hx with rfl | hx
   ·exact .inl rfl
   ·exact h.ovr x hx
  ·have := h.cnt
   rw [List.countP_cons_of_pos (by simp)]
   dsimp only
   omega
 ·exact ⟨⟨l, b, e, hb⟩, h.lev, h.ovr, h.cnt, by dsimp only; omega, by dsimp only; omega, by dsimp only; omega⟩
theorem leave_good {N : Nat} {m : Ms} (h : Good N m) : Good (N + 1) (leave m) := by
 obtain ⟨l, b, e, hb⟩ := h.bot
 have h1 := h.iso; have h2 := h.emb; have h3 := h.len
 unfold leave
 split
 ·exact ⟨⟨l, b, e, hb⟩, h.lev, h.ovr, h.cnt, by dsimp only; omega, by dsimp only; omega, by dsimp only; omega⟩
 ·split
  ·exact ⟨⟨l, b, e, hb⟩, h.lev, h.ovr, h.cnt, by omega, by omega, by omega⟩
  ·have hc := h.cnt
   have ho := h.opn
   rw [e] at hc
   obtain ⟨y, l', d1, d2, d3, d4, d5⟩ := dw_spec hb l (by omega)
   have e2 : (dw m.1).drop 1 = l' ++ [b] := by rw [e, d1]; rfl
   refine ⟨⟨l', b, by dsimp only; exact e2, hb⟩, fun x hx => ?_, fun x hx => ?_, ?_, by dsimp only; omega, by dsimp only; omega, ?_⟩
   ·dsimp only at hx
    rw [e2] at hx
    exact h.lev x (by rw [e]; exact d4 x hx)
   ·dsimp only at hx
    rw [e2] at hx
    exact h.ovr x (by rw [e]; exact d4 x hx)
   ·dsimp only
    rw [e2]
    omega
   ·dsimp only
    rw [e2]
    rw [e] at h3
    simp only [List.length_append, List.length_singleton] at h3 ⊢
    omega
theorem finish_good {N : Nat} {m : Ms} (h : Good N m) : Good (N + 1) (finish m) := by
 obtain ⟨l, b, e, hb⟩ := h.bot
 have h1 := h.iso; have h2 := h.emb; have h3 := h.len
 have same : Good (N + 1) m := ⟨⟨l, b, e, hb⟩, h.lev, h.ovr, h.cnt, by omega, by omega, by omega⟩
 unfold finish
 split
 ·exact same
 ·split
  ·exact ⟨⟨l, b, e, hb⟩, h.lev, h.ovr, h.cnt, by dsimp only; omega, by dsimp only; omega, by dsimp only; omega⟩
  ·split
   ·rename_i hc
    obtain ⟨hc1, hc2⟩ := hc
    cases l with
    | nil => rw [e] at hc2; simp at hc2
    | cons a l =>
     have ha : hd m = a := by unfold hd; rw [e]; rfl
     have e2 : m.1.drop 1 = l ++ [b] := by rw [e]; rfl
     rw [ha] at hc1
     refine ⟨⟨l, b, by dsimp only; exact e2, hb⟩, fun x hx => h.lev x (List.mem_of_mem_drop hx), fun x hx => h.ovr x (List.mem_of_mem_drop hx), ?_, by dsimp only; omega, by dsimp only; omega, by simp only [List.length_drop]; omega⟩
     have := h.cnt
     rw [e, List.cons_append, List.countP_cons_of_neg (by simp [hc1])] at this
     dsimp only
     rw [e2]
     exact this
   ·exact same
theorem stp_good {N : Nat} {m : Ms} (h : Good N m) (c : Int) (right : Bool) : Good (N + 1) (stp c right m) := by
 unfold stp
 repeat' split
 ·exact embed_good h c
 ·exact enter_good h _
 ·exact leave_good h
 ·exact finish_good h
 ·have h1 := h.iso; have h2 := h.emb; have h3 := h.len
  exact ⟨h.bot, h.lev, h.ovr, h.cnt, by omega, by omega, by omega⟩
def ms (cs : List Int) (lev : Int) : Nat → Ms
 | 0 => ([(lev, 13, false)], 0, 0, 0)
 | k + 1 => stp (cs.getD k 0) (ask cs k) (ms cs lev k)
theorem ms_good (cs : List Int) {lev : Int} (hl : 0 ≤ lev ∧ lev ≤ 1) : ∀ k, Good k (ms cs lev k)
 | 0 => ⟨⟨[], _, rfl, rfl⟩, fun x hx => by rw [List.mem_singleton.1 hx]; dsimp only; omega, fun x hx => by rw [List.mem_singleton.1 hx]; exact .inl rfl, rfl, ⟨Int.le_refl _, Int.le_refl _⟩, ⟨Int.le_refl _, Int.le_refl _⟩, by simp [ms]⟩
 | k + 1 => stp_good (ms_good cs hl k) _ _
def lv1 (lev c : Int) (m m' : Ms) : Int := if 14 ≤ c ∧ c ≤ 17 then -1 else if iso c then (hd m).1 else if c = 22 then (hd m').1 else if c = 18 then -1 else if c = 10 then lev else if c = 9 then -1 else (hd m).1
def cl1 (c : Int) (m m' : Ms) : Int := if 14 ≤ c ∧ c ≤ 17 then c else if iso c then und m c else if c = 22 then und m' c else if c = 18 then c else if c = 10 then c else if c = 9 then c else und m c
def lvs (cs : List Int) (lev : Int) (k : Nat) : Int := lv1 lev (cs.getD k 0) (ms cs lev k) (ms cs lev (k + 1))
def cls (cs : List Int) (lev : Int) (k : Nat) : Int := cl1 (cs.getD k 0) (ms cs lev k) (ms cs lev (k + 1))
theorem embedding_F (c : Int) : bidic_Embedding_F c = some (decide (14 ≤ c ∧ c ≤ 17)) := by
 unfold bidic_Embedding_F bidic_Embedding_T
 refine Post.run (Post.br (fun h => Post.pure ?_) (fun h => Post.br (fun h2 => Post.pure ?_) (fun h2 => Post.br (fun h3 => Post.pure ?_) (fun h3 => Post.pure ?_))))
 ·exact (decide_eq_true (by simp at h; omega)).symm
 ·exact (decide_eq_true (by simp at h2; omega)).symm
 ·exact (decide_eq_true (by simp at h3; omega)).symm
 ·simp only [zA, zB, zC, zD, zE, zF, zG, zH, zI, zJ, zK, zL, zM, zN] at h h2 h3
  by_cases h4 : c = 17
  ·subst h4; rfl
  ·rw [decide_eq_false (by omega)]
   simpa using h4
theorem set_set {α : Type} (l : List α) (i : Nat) (a b : α) : (l.set i a).set i b = l.set i b := by
 apply List.ext_getElem?
 intro j
 rw [List.getElem?_set, List.length_set, List.getElem?_set, List.getElem?_set]
 by_cases e : i = j
 ·rw [if_pos e, if_pos e]
 ·rw [if_neg e, if_neg e, if_neg e]
theorem resolve_F (cs : List Int) {lev : Int} (hl : 0 ≤ lev ∧ lev ≤ 1) (hn : cs.length ≤ 4194302) : explicit_Resolve_F cs lev = some (tab cs.length (lvs cs lev), tab cs.length (cls cs lev)) := by
 unfold explicit_Resolve_F explicit_Resolve_T
 refine Post.run (Post.bnd (mk_eq rfl (by omega)) (Post.bnd (mk_eq rfl (by omega)) (Post.bnd (rightward_F cs (by omega)) (Post.bnd (count cs.length
  (fun k => (lev, tab cs.length (part (lvs cs lev) (fun _ => 0) k), tab cs.length (part (cls cs lev) (fun _ => 0) k), enc (ms cs lev k), tab cs.length (ask cs), cs, (cs.length : Int), (k : Int))) (r := (tab cs.length (lvs cs lev), tab cs.length (cls cs lev))) ?_ (fun k hk => ?_) ?_) (Post.pure rfl)))))
 ·rw [tab_rep]
  rfl
 ·dsimp only
  unfold explicit_Resolve_L6
  have hg := ms_good cs hl k
  have hg2 := ms_good cs hl (k + 1)
  have hms : ms cs lev (k + 1) = stp (cs.getD k 0) (ask cs k) (ms cs lev k) := rfl
  have hlv : lvs cs lev k = lv1 lev (cs.getD k 0) (ms cs lev k) (ms cs lev (k + 1)) := rfl
  have hcl : cls cs lev k = cl1 (cs.getD k 0) (ms cs lev k) (ms cs lev (k + 1)) := rfl
  rw [hms] at hg2
  have hask : iso (cs.getD k 0) = false → True := fun _ => trivial
  rw [toNat_nat, wrap_succ (k := k) (by omega)]
  refine Post.brT (decide_eq_true (by omega)) (Post.idx 0 k rfl hk (ptab k rfl hk (ptab k rfl hk ?_)))
  have il : ∀ {v z : Int} {α : Type} {kk : Int → Tr α} {Q : α → Prop}, Post (kk v) Q → Post (.bnd (idx ((tab cs.length (part (lvs cs lev) (fun _ => 0) k)).set k v) (k : Int)) kk) Q := fun {v z α kk Q} h => Post.bnd (idx_set_at (by omega) (by rw [tab_len]; omega)) h
  have ic : ∀ {v z : Int} {α : Type} {kk : Int → Tr α} {Q : α → Prop}, Post (kk v) Q → Post (.bnd (idx ((tab cs.length (part (cls cs lev) (fun _ => 0) k)).set k v) (k : Int)) kk) Q := fun {v z α kk Q} h => Post.bnd (idx_set_at (by omega) (by rw [tab_len]; omega)) h
  -- what is put at the end of a round
  have fin : ∀ (v w : Int) (m' : Ms), lvs cs lev k = v → cls cs lev k = w → ms cs lev (k + 1) = m' →
    (lev, (tab cs.length (part (lvs cs lev) (fun _ => 0) k)).set k v, (tab cs.length (part (cls cs lev) (fun _ => 0) k)).set k w, enc m', tab cs.length (ask cs), cs, (cs.length : Int), ((k + 1 : Nat) : Int)) =
     (lev, tab cs.length (part (lvs cs lev) (fun _ => 0) (k + 1)), tab cs.length (part (cls cs lev) (fun _ => 0) (k + 1)), enc (ms cs lev (k + 1)), tab cs.length (ask cs), cs, (cs.length : Int), ((k + 1 : Nat) : Int)) := by
   intro v w m' h1 h2 h3
   rw [part_set _ h1, part_set _ h2, h3]
  have hpa : ∀ {α : Type} {kk : Bool → Tr α} {Q : α → Prop}, Post (kk (ask cs k)) Q → Post (.bnd (idx (tab cs.length (ask cs)) (k : Int)) kk) Q := fun h => ptab k rfl hk h
  generalize hc : cs.getD k 0 = c at hms hlv hcl hg2
  refine Post.bnd (embedding_F c) (Post.br (fun h1 => ?_) (fun h1 => ?_))
  ·have h1 : 14 ≤ c ∧ c ≤ 17 := by simpa using h1
   refine Post.bnd (embed_F hg (by omega) c) (Post.pure ?_)
   refine congrArg Lap.next (fin _ _ (embed c (ms cs lev k)) ?_ ?_ ?_)
   ·rw [hlv]; unfold lv1; rw [if_pos h1]
   ·rw [hcl]; unfold cl1; rw [if_pos h1]
   ·rw [hms]; unfold stp; rw [if_pos h1]
  have h1 : ¬ (14 ≤ c ∧ c ≤ 17) := by simpa using h1
  refine Post.bnd (isolate_F c) (Post.br (fun h2 => ?_) (fun h2 => ?_))
  ·refine Post.bnd (top_F hg (by omega)) (Post.bnd (under_F hg (by omega) c) (il (z := 0) (ic (z := 0) ?_)))
   dsimp only
   rw [set_set, set_set]
   have e1 : lvs cs lev k = (hd (ms cs lev k)).1 := by rw [hlv]; unfold lv1; rw [if_neg h1, if_pos h2]
   have e2 : cls cs lev k = und (ms cs lev k) c := by rw [hcl]; unfold cl1; rw [if_neg h1, if_pos h2]
   have e3 : ms cs lev (k + 1) = enter (c == 20 || (c == 21 && ask cs k)) (ms cs lev k) := by rw [hms]; unfold stp; rw [if_neg h1, if_pos h2]
   refine Post.br (fun h3 => ?_) (fun h3 => Post.br (fun h4 => ?_) (fun h4 => ?_))
   ·refine Post.bnd (enter_F hg (by omega) true) (Post.pure (congrArg Lap.next (fin _ _ _ e1 e2 ?_)))
    rw [e3, h3]; rfl
   ·refine hpa (Post.bnd (enter_F hg (by omega) (ask cs k)) (Post.pure (congrArg Lap.next (fin _ _ _ e1 e2 ?_))))
    rw [e3, h3, h4]; rfl
   ·refine Post.bnd (enter_F hg (by omega) false) (Post.pure (congrArg Lap.next (fin _ _ _ e1 e2 ?_)))
    rw [e3, h3, h4]; rfl
  have h2' : ¬ iso c = true := by rw [h2]; simp
  refine Post.br (fun h3 => ?_) (fun h3 => ?_)
  ·have h3 : c = 22 := by simpa using h3
   have e3 : ms cs lev (k + 1) = leave (ms cs lev k) := by rw [hms]; unfold stp; rw [if_neg h1, if_neg h2', if_pos h3]
   have e3' : stp c (ask cs k) (ms cs lev k) = leave (ms cs lev k) := by rw [← hms, e3]
   rw [e3'] at hg2
   refine Post.bnd (leave_F hg (by omega)) (Post.bnd (top_F hg2 (by omega)) (Post.bnd (under_F hg2 (by omega) c) (il (z := 0) (ic (z := 0) (Post.pure ?_)))))
   dsimp only
   rw [set_set, set_set]
   refine congrArg Lap.next (fin _ _ (leave (ms cs lev k)) ?_ ?_ e3)
   ·rw [hlv, e3]; unfold lv1; rw [if_neg h1, if_neg h2', if_pos h3]
   ·rw [hcl, e3]; unfold cl1; rw [if_neg h1, if_neg h2', if_pos h3]
  have h3 : ¬ c = 22 := by simpa using h3
  refine Post.br (fun h4 => ?_) (fun h4 => ?_)
  ·have h4 : c = 18 := by simpa using h4
   refine Post.bnd (end_F hg (by omega)) (Post.pure ?_)
   refine congrArg Lap.next (fin _ _ (finish (ms cs lev k)) ?_ ?_ ?_)
   ·rw [hlv]; unfold lv1; rw [if_neg h1, if_neg h2', if_neg h3, if_pos h4]
   ·rw [hcl]; unfold cl1; rw [if_neg h1, if_neg h2', if_neg h3, if_pos h4]
   ·rw [hms]; unfold stp; rw [if_neg h1, if_neg h2', if_neg h3, if_pos h4]
  have h4 : ¬ c = 18 := by simpa using h4
  have e3 : ms cs lev (k + 1) = ms cs lev k := by rw [hms]; unfold stp; rw [if_neg h1, if_neg h2', if_neg h3, if_neg h4]
  refine Post.br (fun h5 => il (z := 0) (Post.pure ?_)) (fun h5 => ?_)
  ·have h5 : c = 10 := by simpa using h5
   rw [set_set]
   refine congrArg Lap.next (fin _ _ (ms cs lev k) ?_ ?_ e3)
   ·rw [hlv]; unfold lv1; rw [if_neg h1, if_neg h2', if_neg h3, if_neg h4, if_pos h5]
   ·rw [hcl]; unfold cl1; rw [if_neg h1, if_neg h2', if_neg h3, if_neg h4, if_pos h5]
  have h5 : ¬ c = 10 := by simpa using h5
  refine Post.br (fun h6 => ?_) (fun h6 => Post.pure ?_)
  ·have h6 : ¬ c = 9 := by simpa using h6
   refine Post.bnd (top_F hg (by omega)) (Post.bnd (under_F hg (by omega) c) (il (z := 0) (ic (z := 0) (Post.pure ?_))))
   dsimp only
   rw [set_set, set_set]
   refine congrArg Lap.next (fin _ _ (ms cs lev k) ?_ ?_ e3)
   ·rw [hlv]; unfold lv1; rw [if_neg h1, if_neg h2', if_neg h3, if_neg h4, if_neg h5, if_neg h6]
   ·rw [hcl]; unfold cl1; rw [if_neg h1, if_neg h2', if_neg h3, if_neg h4, if_neg h5, if_neg h6]
  ·have h6 : c = 9 := by simpa using h6
   refine congrArg Lap.next (fin _ _ (ms cs lev k) ?_ ?_ e3)
   ·rw [hlv]; unfold lv1; rw [if_neg h1, if_neg h2', if_neg h3, if_neg h4, if_neg h5, if_pos h6]
   ·rw [hcl]; unfold cl1; rw [if_neg h1, if_neg h2', if_neg h3, if_neg h4, if_neg h5, if_pos h6]
 ·dsimp only
  unfold explicit_Resolve_L6
  rw [part_end, part_end]
  exact Post.brF (decide_eq_false (by omega)) (Post.pure rfl)
theorem iso_lt {c : Int} (h : c < 14) : ¬ iso c = true := by unfold iso; simp; omega
theorem getD_mem {cs : List Int} {k : Nat} (h : k < cs.length) : cs.getD k 0 ∈ cs := by
 rw [show cs.getD k 0 = cs[k] by simp [List.getD, h]]
 exact List.getElem_mem h
theorem lv1_iso {lev a : Int} {m m' : Ms} (h : iso a = true) (n : ¬ (14 ≤ a ∧ a ≤ 17)) : lv1 lev a m m' = (hd m).1 := by
 unfold lv1; rw [if_neg n, if_pos h]
theorem ms_ge (cs : List Int) {lev : Int} (hl : 0 ≤ lev ∧ lev ≤ 1) : ∀ k, ∀ x ∈ (ms cs lev k).1, lev ≤ x.1
 | 0, x, hx => by rw [List.mem_singleton.1 hx]; exact Int.le_refl _
 | k + 1, x, hx => by
  have ih := ms_ge cs hl k
  have hg := ms_good cs hl k
  obtain ⟨r, e⟩ := hg.cons
  have ht := hg.top
  have htl : lev ≤ (hd (ms cs lev k)).1 := ih _ (by rw [e]; exact List.mem_cons_self)
  change x ∈ (stp (cs.getD k 0) (ask cs k) (ms cs lev k)).1 at hx
  unfold stp at hx
  repeat' split at hx
  ·unfold embed at hx
   split at hx
   ·rcases List.mem_cons.1 hx with rfl | hx
    ·have := nx_le (hd (ms cs lev k)).1 (cs.getD k 0 == 16 || cs.getD k 0 == 17) ht.1
     dsimp only
     omega
    ·exact ih x hx
   ·split at hx
    ·exact ih x hx
    ·exact ih x hx
  ·unfold enter at hx
   split at hx
   ·rcases List.mem_cons.1 hx with rfl | hx
    ·have := nx_le (hd (ms cs lev k)).1 (cs.getD k 0 == 20 || (cs.getD k 0 == 21 && ask cs k)) ht.1
     dsimp only
     omega
    ·exact ih x hx
   ·exact ih x hx
  ·unfold leave at hx
   split at hx
   ·exact ih x hx
   ·split at hx
    ·exact ih x hx
    ·refine ih x ?_
     have h1 : x ∈ dw (ms cs lev k).1 := List.mem_of_mem_drop hx
     exact (List.dropWhile_sublist _).subset h1
  ·unfold finish at hx
   repeat' split at hx
   ·exact ih x hx
   ·exact ih x hx
   ·exact ih x (List.mem_of_mem_drop hx)
   ·exact ih x hx
  ·exact ih x hx
theorem hd_bounds (cs : List Int) {lev : Int} (hl : 0 ≤ lev ∧ lev ≤ 1) (k : Nat) : lev ≤ (hd (ms cs lev k)).1 ∧ (hd (ms cs lev k)).1 ≤ 125 := by
 have hg := ms_good cs hl k
 obtain ⟨r, e⟩ := hg.cons
 exact ⟨ms_ge cs hl k _ (by rw [e]; exact List.mem_cons_self), hg.top.2⟩
theorem und_cases {N : Nat} {m : Ms} (h : Good N m) (c : Int) : und m c = c ∨ und m c = 0 ∨ und m c = 1 := by
 unfold und
 have := h.topo
 split
 ·exact .inl rfl
 ·rename_i hne
  rcases this with e | e | e
  ·exact absurd e hne
  ·exact .inr (.inl e)
  ·exact .inr (.inr e)
def taken (c : Int) : Bool := decide (14 ≤ c ∧ c ≤ 17) || (c == 18 || c == 9)
theorem lvs_facts (cs : List Int) {lev : Int} (hl : 0 ≤ lev ∧ lev ≤ 1) (k : Nat) : (lvs cs lev k == -1) = taken (cs.getD k 0) ∧ (lvs cs lev k ≠ -1 → lev ≤ lvs cs lev k ∧ lvs cs lev k ≤ 125) ∧ (cs.getD k 0 = 10 → lvs cs lev k = lev ∧ cls cs lev k = 10) ∧
  (cls cs lev k = cs.getD k 0 ∨ cls cs lev k = 0 ∨ cls cs lev k = 1) := by
 have h1 := hd_bounds cs hl k
 have h2 := hd_bounds cs hl (k + 1)
 have g1 := ms_good cs hl k
 have g2 := ms_good cs hl (k + 1)
 unfold lvs cls
 generalize cs.getD k 0 = c
 generalize ms cs lev k = m at *
 generalize ms cs lev (k + 1) = m' at *
 have u1 := und_cases g1 c
 have u2 := und_cases g2 c
 unfold lv1 cl1 taken
 by_cases a1 : 14 ≤ c ∧ c ≤ 17
 ·rw [if_pos a1, if_pos a1, decide_eq_true a1]
  exact ⟨rfl, fun h => absurd rfl h, (fun h => by omega), .inl rfl⟩
 rw [if_neg a1, if_neg a1, decide_eq_false a1, Bool.false_or]
 by_cases a2 : iso c = true
 ·rw [if_pos a2, if_pos a2]
  have a3 : c ≠ 18 ∧ c ≠ 9 ∧ c ≠ 10 := by refine ⟨?_, ?_, ?_⟩ <;> (rintro rfl; cases a2)
  refine ⟨?_, fun _ => h1, fun h => absurd h a3.2.2, u1⟩
  have e1 : ((hd m).1 == -1) = false := by simp; omega
  have e2 : (c == 18 || c == 9) = false := by simp [a3.1, a3.2.1]
  rw [e1, e2]
 rw [if_neg a2, if_neg a2]
 by_cases a3 : c = 22
 ·subst a3
  rw [if_pos rfl, if_pos rfl]
  refine ⟨?_, fun _ => h2, (fun h => by cases h), u2⟩
  have e1 : ((hd m').1 == -1) = false := by simp; omega
  rw [e1]
  rfl
 rw [if_neg a3, if_neg a3]
 by_cases a4 : c = 18
 ·subst a4
  exact ⟨rfl, fun h => absurd rfl h, (fun h => by cases h), .inl rfl⟩
 rw [if_neg a4, if_neg a4]
 by_cases a5 : c = 10
 ·subst a5
  refine ⟨?_, fun _ => ⟨Int.le_refl _, by rw [if_pos rfl]; omega⟩, fun _ => ⟨rfl, rfl⟩, .inl rfl⟩
  rw [if_pos rfl]
  have e1 : (lev == -1) = false := by simp; omega
  rw [e1]
  rfl
 rw [if_neg a5, if_neg a5]
 by_cases a6 : c = 9
 ·subst a6
  exact ⟨rfl, fun h => absurd rfl h, (fun h => by cases h), .inl rfl⟩
 rw [if_neg a6, if_neg a6]
 refine ⟨?_, fun _ => h1, fun h => absurd h a5, u1⟩
 have e1 : ((hd m).1 == -1) = false := by simp; omega
 have e2 : (c == 18 || c == 9) = false := by simp [a4, a6]
 rw [e1, e2]
theorem ms_plain {cs : List Int} {lev : Int} (h : ∀ c ∈ cs, c < 14) : ∀ k, ms cs lev k = ([(lev, 13, false)], 0, 0, 0)
 | 0 => rfl
 | k + 1 => by
  show stp (cs.getD k 0) (ask cs k) (ms cs lev k) = _
  have hc : cs.getD k 0 < 14 := by
   by_cases hk : k < cs.length
   ·exact h _ (getD_mem hk)
   ·rw [getD_len (by omega)]; omega
  unfold stp
  have hi : ¬ iso (cs.getD k 0) = true := iso_lt hc
  rw [if_neg (by omega), if_neg hi, if_neg (by omega), if_neg (by omega)]
  exact ms_plain h k
theorem plain_at {cs : List Int} {lev : Int} (h : ∀ c ∈ cs, c < 14 ∧ c ≠ 9) {k : Nat} (hk : k < cs.length) : lvs cs lev k = lev ∧ cls cs lev k = cs.getD k 0 := by
 have hc : cs.getD k 0 < 14 ∧ cs.getD k 0 ≠ 9 := h _ (getD_mem hk)
 unfold lvs cls
 rw [ms_plain (fun c hc => (h c hc).1) k, ms_plain (fun c hc => (h c hc).1) (k + 1)]
 generalize cs.getD k 0 = c at hc ⊢
 have hi : ¬ iso c = true := iso_lt hc.1
 unfold lv1 cl1
 have n1 : ¬ (14 ≤ c ∧ c ≤ 17) := by omega
 have n2 : ¬ c = 22 := by omega
 have n3 : ¬ c = 18 := by omega
 simp only [if_neg n1, if_neg hi, if_neg n2, if_neg n3, if_neg hc.2]
 by_cases h10 : c = 10
 ·simp only [if_pos h10]; exact ⟨trivial, trivial⟩
 ·simp only [if_neg h10]; exact ⟨rfl, rfl⟩
end Go.Proofs.YtenbhmjcoljddaaGreatDoor.Ex
