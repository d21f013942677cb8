/-
  The stack of embeddings and isolates: what each class does to it.
-/
import Derived.Test.YtjiehphakabflaaLawExpl
namespace Go.Proofs.Ytjiehphakabflaa
set_option linter.all false

abbrev En := Int × Int × Bool
/-- the stack, the top first; isolates and embeddings that overflow; isolates that are open -/
abbrev Ms := List En × Int × Int × Int
def enc (m : Ms) : Ms := (m.1.reverse, m.2.1, m.2.2.1, m.2.2.2)
def hd (m : Ms) : En := m.1.headD (0, 13, false)

theorem last_idx {α : Type} (x : α) (r : List α) (hn : r.length ≤ 8388608) : idx (x :: r).reverse (IntKind.i64.wrap (((x :: r).reverse.length : Int) - 1)) = some x := by
  have e : IntKind.i64.wrap (((x :: r).reverse.length : Int) - 1) = (r.length : Int) := by
    rw [List.length_reverse, List.length_cons, wrap64 (by omega) (by omega)]; omega
  rw [e, idx_getD x (k := r.length) rfl (by simp)]
  simp [List.getD]
theorem last_cut {α : Type} (x : α) (r : List α) (hn : r.length ≤ 8388608) : cut (x :: r).reverse 0 (IntKind.i64.wrap (((x :: r).reverse.length : Int) - 1)) = some r.reverse := by
  have e : IntKind.i64.wrap (((x :: r).reverse.length : Int) - 1) = (r.length : Int) := by
    rw [List.length_reverse, List.length_cons, wrap64 (by omega) (by omega)]; omega
  rw [e, cut_take (n := r.length) rfl (by simp), List.reverse_cons, List.take_left' (by simp)]

structure Good (N : Nat) (m : Ms) : Prop where
  bot : ∃ l b, m.1 = l ++ [b] ∧ b.2.2 = false
  lev : ∀ x ∈ m.1, 0 ≤ x.1 ∧ x.1 ≤ 125
  ovr : ∀ x ∈ m.1, x.2.1 = 13 ∨ x.2.1 = 0 ∨ x.2.1 = 1
  cnt : (m.1.countP (fun x => x.2.2) : Int) = m.2.2.2
  iso : 0 ≤ m.2.1 ∧ m.2.1 ≤ N
  emb : 0 ≤ m.2.2.1 ∧ m.2.2.1 ≤ N
  len : m.1.length ≤ N + 1
theorem Good.opn {N : Nat} {m : Ms} (h : Good N m) : 0 ≤ m.2.2.2 ∧ m.2.2.2 ≤ N + 1 := by
  have h1 := h.cnt
  have h2 := List.countP_le_length (p := fun x : En => x.2.2) (l := m.1)
  have h3 := h.len
  omega
theorem Good.cons {N : Nat} {m : Ms} (h : Good N m) : ∃ r, m.1 = hd m :: r := by
  obtain ⟨l, b, e, _⟩ := h.bot
  unfold hd
  rw [e]
  cases l with
  | nil => exact ⟨[], rfl⟩
  | cons a l => exact ⟨l ++ [b], rfl⟩
theorem Good.top {N : Nat} {m : Ms} (h : Good N m) : 0 ≤ (hd m).1 ∧ (hd m).1 ≤ 125 := by
  obtain ⟨r, e⟩ := h.cons
  exact h.lev _ (by rw [e]; exact List.mem_cons_self)
theorem Good.topo {N : Nat} {m : Ms} (h : Good N m) : (hd m).2.1 = 13 ∨ (hd m).2.1 = 0 ∨ (hd m).2.1 = 1 := by
  obtain ⟨r, e⟩ := h.cons
  exact h.ovr _ (by rw [e]; exact List.mem_cons_self)

theorem top_F {N : Nat} {m : Ms} (h : Good N m) (hN : N ≤ 4194304) : explicit_state_top_F (enc m) = some (enc m, hd m) := by
  obtain ⟨r, e⟩ := h.cons
  have hl := h.len
  rw [e, List.length_cons] at hl
  unfold explicit_state_top_F explicit_state_top_T
  refine Post.run (Post.bnd (b := hd m) ?_ (Post.pure rfl))
  show idx m.1.reverse (IntKind.i64.wrap ((m.1.reverse.length : Int) - 1)) = some (hd m)
  rw [e]
  exact last_idx _ _ (by omega)

/-- the least level above one that runs to the right, or to the left -/
def nx (l : Int) (right : Bool) : Int := if (l % 2 = 0) = (right = true) then l + 1 else l + 2
theorem nx_or : ∀ n : Fin 126, ibits .or .i64 (IntKind.i64.wrap ((n.1 : Int) + 1)) 1 = nx n.1 true := by decide +kernel
theorem nx_andNot : ∀ n : Fin 126, ibits .andNot .i64 (IntKind.i64.wrap ((n.1 : Int) + 2)) 1 = nx n.1 false := by decide +kernel
theorem nx_le (l : Int) (right : Bool) (h : 0 ≤ l) : l < nx l right ∧ nx l right ≤ l + 2 := by
  unfold nx; split <;> omega
theorem next_F {N : Nat} {m : Ms} (h : Good N m) (hN : N ≤ 4194304) (right : Bool) : explicit_state_next_F (enc m) right = some (enc m, nx (hd m).1 right) := by
  have ht := h.top
  have hf : ((hd m).1.toNat : Int) = (hd m).1 := by omega
  have h1 := nx_or ⟨(hd m).1.toNat, by omega⟩
  have h2 := nx_andNot ⟨(hd m).1.toNat, by omega⟩
  dsimp only at h1 h2
  rw [hf] at h1 h2
  unfold explicit_state_next_F explicit_state_next_T
  refine Post.run ?_
  cases right
  · refine Post.brF rfl (Post.bnd (top_F h hN) (Post.pure ?_))
    dsimp only
    rw [h2]
  · refine Post.brT rfl (Post.bnd (top_F h hN) (Post.pure ?_))
    dsimp only
    rw [h1]

def fit (m : Ms) (l : Int) : Bool := decide (l ≤ 125) && (m.2.1 == 0 && m.2.2.1 == 0)
theorem box0 {α : Type} (x : α) : idx [x] 0 = some x := rfl
theorem fits_F (m : Ms) (l : Int) : explicit_state_fits_F (enc m) l = some (enc m, fit m l) := by
  unfold explicit_state_fits_F explicit_state_fits_T fit
  refine Post.run (Post.br (fun h => Post.bnd (box0 _) (Post.br (fun h2 => Post.bnd (box0 _) (Post.pure ?_)) (fun h2 => Post.pure ?_))) (fun h => Post.pure ?_))
  · have h2 : (m.2.1 == 0) = true := h2
    rw [h, h2]
    rfl
  · have h2 : (m.2.1 == 0) = false := h2
    rw [h, h2]
    rfl
  · rw [h]
    rfl

theorem push_F {N : Nat} {m : Ms} (h : Good N m) (hN : N ≤ 4194304) (x : En) : explicit_state_push_F (enc m) x = some (enc (x :: m.1, m.2), ()) := by
  have hl := h.len
  unfold explicit_state_push_F explicit_state_push_T
  refine Post.run (Post.bnd (app_eq (by simp only [enc, List.length_reverse, List.length_cons, List.length_nil]; omega)) (Post.pure ?_))
  simp [enc]

def ov (c : Int) : Int := if c = 17 then 1 else if c = 15 then 0 else 13
theorem override_F (c : Int) : explicit_override_F c = some (ov c) := by
  unfold explicit_override_F explicit_override_T ov
  simp only [Tr.run_br, Tr.run_pure, beq_iff_eq]
  repeat' split
  all_goals rfl

def embed (c : Int) (m : Ms) : Ms := if fit m (nx (hd m).1 (c == 16 || c == 17)) then ((nx (hd m).1 (c == 16 || c == 17), ov c, false) :: m.1, m.2) else if m.2.1 = 0 then (m.1, m.2.1, m.2.2.1 + 1, m.2.2.2) else m
theorem embed_F {N : Nat} {m : Ms} (h : Good N m) (hN : N ≤ 4194304) (c : Int) : explicit_state_embed_F (enc m) c = some (enc (embed c m), ()) := by
  have h3 := h.emb
  have key : ∀ right : Bool, (c == 16 || c == 17) = right → Post
      (.bnd (explicit_state_next_F ((enc m).1, (enc m).2.1, (enc m).2.2.1, (enc m).2.2.2) right) fun c_1 =>
    .bnd (explicit_state_fits_F (c_1.1.1, c_1.1.2.1, c_1.1.2.2.1, c_1.1.2.2.2) c_1.2) fun c_2 =>
    .br c_2.2 (
      .bnd (explicit_override_F c) fun c_3 =>
      .bnd (explicit_state_push_F (c_2.1.1, c_2.1.2.1, c_2.1.2.2.1, c_2.1.2.2.2) (c_1.2, c_3, false)) fun c_4 =>
      .pure ((c_4.1.1, c_4.1.2.1, c_4.1.2.2.1, c_4.1.2.2.2), ())) (
      .bnd (idx ([((), c_2.1.2.1, c_2.1.2.2.1, c_2.1.2.2.2)]) 0) fun x_5 =>
      .br (x_5.2.1 == 0) (
        .bnd (idx ([((), c_2.1.2.1, c_2.1.2.2.1, c_2.1.2.2.2)]) 0) fun x_6 =>
        .bnd (idx ([((), c_2.1.2.1, c_2.1.2.2.1, c_2.1.2.2.2)]) 0) fun x_7 =>
        .pure ((c_2.1.1, x_7.2.1, IntKind.i64.wrap (x_6.2.2.1 + 1), x_7.2.2.2), ())) (
        .pure ((c_2.1.1, c_2.1.2.1, c_2.1.2.2.1, c_2.1.2.2.2), ()))) : Tr (((List (Int × Int × Bool)) × Int × Int × Int) × Unit)) (· = (enc (embed c m), ())) := by
    intro right hr
    unfold embed
    rw [hr]
    refine Post.bnd (next_F h hN right) (Post.bnd (fits_F m _) (Post.br (fun h1 => Post.bnd (override_F c) (Post.bnd (push_F h hN _) (Post.pure ?_))) (fun h1 => Post.bnd (box0 _) (Post.br (fun h2 => Post.bnd (box0 _) (Post.bnd (box0 _) (Post.pure ?_))) (fun h2 => Post.pure ?_)))))
    · rw [if_pos h1]
    · have h2 : (m.2.1 == 0) = true := h2
      have h2 : m.2.1 = 0 := by simpa using h2
      have h1 : fit m (nx (hd m).1 right) = false := h1
      rw [if_neg (by simp [h1]), if_pos h2]
      show ((m.1.reverse, m.2.1, IntKind.i64.wrap (m.2.2.1 + 1), m.2.2.2), ()) = _
      rw [wrap64 (by omega) (by omega)]
      rfl
    · have h2 : (m.2.1 == 0) = false := h2
      have h2 : ¬ m.2.1 = 0 := by simpa using h2
      have h1 : fit m (nx (hd m).1 right) = false := h1
      rw [if_neg (by simp [h1]), if_neg h2]
  unfold explicit_state_embed_F explicit_state_embed_T
  refine Post.run (Post.br (fun h1 => ?_) (fun h1 => ?_))
  · exact key true (by rw [h1]; rfl)
  · exact key (c == 17) (by rw [h1]; rfl)

def und (m : Ms) (c : Int) : Int := if (hd m).2.1 = 13 then c else (hd m).2.1
theorem under_F {N : Nat} {m : Ms} (h : Good N m) (hN : N ≤ 4194304) (c : Int) : explicit_state_under_F (enc m) c = some (enc m, und m c) := by
  unfold explicit_state_under_F explicit_state_under_T und
  refine Post.run (Post.bnd (top_F h hN) (Post.br (fun h1 => Post.pure ?_) (fun h1 => Post.bnd (top_F h hN) (Post.pure ?_))))
  · rw [if_pos (by simpa using h1)]
  · rw [if_neg (by simpa using h1)]

def enter (right : Bool) (m : Ms) : Ms := if fit m (nx (hd m).1 right) then ((nx (hd m).1 right, 13, true) :: m.1, m.2.1, m.2.2.1, m.2.2.2 + 1) else (m.1, m.2.1 + 1, m.2.2.1, m.2.2.2)
theorem enter_F {N : Nat} {m : Ms} (h : Good N m) (hN : N ≤ 4194304) (right : Bool) : explicit_state_enter_F (enc m) right = some (enc (enter right m), ()) := by
  have h3 := h.iso
  have h4 := h.opn
  have hl := h.len
  unfold explicit_state_enter_F explicit_state_enter_T enter
  refine Post.run (Post.bnd (next_F h hN right) (Post.bnd (fits_F m _) (Post.br (fun h1 => Post.bnd (box0 _) (Post.bnd (box0 _) (Post.bnd (b := (enc ((nx (hd m).1 right, 13, true) :: m.1, m.2.1, m.2.2.1, m.2.2.2 + 1), ())) ?_ (Post.pure ?_)))) (fun h1 => Post.bnd (box0 _) (Post.bnd (box0 _) (Post.pure ?_))))))
  · show explicit_state_push_F (m.1.reverse, m.2.1, m.2.2.1, IntKind.i64.wrap (m.2.2.2 + 1)) (nx (hd m).1 right, 13, true) = _
    rw [wrap64 (by omega) (by omega)]
    unfold explicit_state_push_F explicit_state_push_T
    refine Post.run (Post.bnd (app_eq (by simp only [List.length_reverse, List.length_cons, List.length_nil]; omega)) (Post.pure ?_))
    simp [enc]
  · rw [if_pos h1]
  · have h1 : fit m (nx (hd m).1 right) = false := h1
    rw [if_neg (by simp [h1])]
    show ((m.1.reverse, IntKind.i64.wrap (m.2.1 + 1), m.2.2.1, m.2.2.2), ()) = _
    rw [wrap64 (by omega) (by omega)]
    rfl

theorem pop_F (x : En) (r : List En) (q : Int × Int × Int) (hn : r.length ≤ 8388608) : explicit_state_pop_F (enc (x :: r, q)) = some (enc (r, q), ()) := by
  unfold explicit_state_pop_F explicit_state_pop_T
  refine Post.run (Post.bnd (b := r.reverse) (last_cut x r hn) (Post.pure rfl))

def dw (l : List En) : List En := l.dropWhile fun x => !x.2.2
theorem dw_cons (x : En) (r : List En) : dw (x :: r) = if x.2.2 then x :: r else dw r := by
  unfold dw
  rw [List.dropWhile_cons]
  cases x.2.2 <;> rfl
theorem dw_spec {b : En} (hb : b.2.2 = false) : ∀ l : List En, 0 < (l ++ [b]).countP (fun x => x.2.2) → ∃ y l', dw (l ++ [b]) = y :: (l' ++ [b]) ∧ y.2.2 = true ∧ (l' ++ [b]).countP (fun x => x.2.2) + 1 = (l ++ [b]).countP (fun x => x.2.2) ∧ (∀ x ∈ l' ++ [b], x ∈ l ++ [b]) ∧ l'.length ≤ l.length
  | [], h => by simp [hb] at h
  | a :: l, h => by
    rw [List.cons_append, dw_cons]
    by_cases ha : a.2.2 = true
    · rw [if_pos ha]
      exact ⟨a, l, rfl, ha, by rw [List.countP_cons_of_pos (by simpa using ha)], fun x hx => List.mem_cons_of_mem _ hx, by simp⟩
    · rw [if_neg ha]
      have e : (a :: (l ++ [b])).countP (fun x => x.2.2) = (l ++ [b]).countP (fun x => x.2.2) := List.countP_cons_of_neg (by simpa using ha)
      rw [List.cons_append, e] at h
      obtain ⟨y, l', h1, h2, h3, h4, h5⟩ := dw_spec hb l h
      refine ⟨y, l', h1, h2, by rw [e]; exact h3, fun x hx => List.mem_cons_of_mem _ (h4 x hx), by simp only [List.length_cons]; omega⟩

theorem popLoop (q : Int × Int × Int) : ∀ (l : List En) {y : En} {r : List En}, l.length ≤ 4194304 → dw l = y :: r → loopW (fun s => (explicit_state_leave_L4 s).run) (enc (l, q)) = some (enc (y :: r, q))
  | [], _, _, _, h => by cases h
  | x :: l, y, r, hn, h => by
    rw [List.length_cons] at hn
    have ht : explicit_state_top_F (enc (x :: l, q)) = some (enc (x :: l, q), x) := by
      unfold explicit_state_top_F explicit_state_top_T
      exact Post.run (Post.bnd (b := x) (last_idx x l (by omega)) (Post.pure rfl))
    rw [dw_cons] at h
    by_cases hx : x.2.2 = true
    · rw [if_pos hx] at h
      injection h with h1 h2
      subst h1 h2
      refine loopW_done (r := enc (x :: l, q)) (Post.run ?_)
      unfold explicit_state_leave_L4
      exact Post.bnd ht (Post.brF (by simp [hx]) (Post.pure rfl))
    · rw [if_neg hx] at h
      refine loopW_next (s' := enc (l, q)) (Post.run ?_) (popLoop q l (by omega) h)
      unfold explicit_state_leave_L4
      exact Post.bnd ht (Post.brT (by simp [hx]) (Post.bnd (pop_F x l q (by omega)) (Post.pure rfl)))

def leave (m : Ms) : Ms := if 0 < m.2.1 then (m.1, m.2.1 - 1, m.2.2.1, m.2.2.2) else if m.2.2.2 = 0 then m else ((dw m.1).drop 1, m.2.1, 0, m.2.2.2 - 1)
theorem leave_F {N : Nat} {m : Ms} (h : Good N m) (hN : N ≤ 4194303) : explicit_state_leave_F (enc m) = some (enc (leave m), ()) := by
  have h3 := h.iso
  have h4 := h.opn
  have hl := h.len
  unfold explicit_state_leave_F explicit_state_leave_T leave
  refine Post.run (Post.bnd (box0 _) (Post.br (fun h1 => Post.bnd (box0 _) (Post.bnd (box0 _) (Post.pure ?_))) (fun h1 => Post.bnd (box0 _) (Post.br (fun h2 => Post.pure ?_) (fun h2 => Post.bnd (box0 _) ?_)))))
  · have h1 : decide (m.2.1 > 0) = true := h1
    have h1 : m.2.1 > 0 := by simpa using h1
    rw [if_pos h1]
    show ((m.1.reverse, IntKind.i64.wrap (m.2.1 - 1), m.2.2.1, m.2.2.2), ()) = _
    rw [wrap64 (by omega) (by omega)]
    rfl
  · have h1 : decide (m.2.1 > 0) = false := h1
    have h1 : ¬ m.2.1 > 0 := by simpa using h1
    have h2 : (m.2.2.2 == 0) = true := h2
    rw [if_neg h1, if_pos (by simpa using h2)]
  · have h1 : decide (m.2.1 > 0) = false := h1
    have h1 : ¬ m.2.1 > 0 := by simpa using h1
    have h2 : (m.2.2.2 == 0) = false := h2
    have h2 : ¬ m.2.2.2 = 0 := by simpa using h2
    rw [if_neg h1, if_neg h2]
    obtain ⟨l, b, e, hb⟩ := h.bot
    have hc := h.cnt
    rw [e] at hc
    obtain ⟨y, l', d1, d2, d3, d4, d5⟩ := dw_spec hb l (by omega)
    have hll : l.length + 1 ≤ N + 1 := by rw [e] at hl; simpa using hl
    rw [← e] at d1
    refine Post.bnd (b := enc (y :: (l' ++ [b]), m.2.1, 0, m.2.2.2)) (popLoop (m.2.1, 0, m.2.2.2) m.1 (by omega) d1) (Post.bnd (pop_F y (l' ++ [b]) (m.2.1, 0, m.2.2.2) (by simp; omega)) (Post.bnd (box0 _) (Post.bnd (box0 _) (Post.pure ?_))))
    show (((l' ++ [b]).reverse, m.2.1, 0, IntKind.i64.wrap (m.2.2.2 - 1)), ()) = _
    rw [d1, wrap64 (by omega) (by omega)]
    rfl

def finish (m : Ms) : Ms := if 0 < m.2.1 then m else if 0 < m.2.2.1 then (m.1, m.2.1, m.2.2.1 - 1, m.2.2.2) else if (hd m).2.2 = false ∧ 1 < m.1.length then (m.1.drop 1, m.2) else m
theorem end_F {N : Nat} {m : Ms} (h : Good N m) (hN : N ≤ 4194303) : explicit_state_end_F (enc m) = some (enc (finish m), ()) := by
  have h3 := h.emb
  have hl := h.len
  obtain ⟨r, e⟩ := h.cons
  unfold explicit_state_end_F explicit_state_end_T finish
  refine Post.run (Post.bnd (box0 _) (Post.br (fun h1 => Post.pure ?_) (fun h1 => Post.bnd (box0 _) (Post.br (fun h2 => Post.bnd (box0 _) (Post.bnd (box0 _) (Post.pure ?_))) (fun h2 => Post.bnd (top_F h (by omega)) (Post.br (fun h4 => Post.br (fun h5 => Post.bnd (b := (enc (r, m.2), ())) ?_ (Post.pure ?_)) (fun h5 => Post.pure ?_)) (fun h4 => Post.pure ?_)))))))
  · have h1 : decide (m.2.1 > 0) = true := h1
    rw [if_pos (by simpa using h1)]
  · have h1 : decide (m.2.1 > 0) = false := h1
    have h2 : decide (m.2.2.1 > 0) = true := h2
    have h2 : m.2.2.1 > 0 := by simpa using h2
    rw [if_neg (by simpa using h1), if_pos h2]
    show ((m.1.reverse, m.2.1, IntKind.i64.wrap (m.2.2.1 - 1), m.2.2.2), ()) = _
    rw [wrap64 (by omega) (by omega)]
    rfl
  · have := pop_F (hd m) r m.2 (by rw [e] at hl; simp at hl; omega)
    rw [← e] at this
    exact this
  · have h1 : decide (m.2.1 > 0) = false := h1
    have h2 : decide (m.2.2.1 > 0) = false := h2
    have h4 : (!(hd m).2.2) = true := h4
    have h5 : decide ((m.1.reverse.length : Int) > 1) = true := h5
    rw [List.length_reverse] at h5
    rw [if_neg (by simpa using h1), if_neg (by simpa using h2), if_pos ⟨by simpa using h4, by simp at h5; omega⟩]
    rw [show m.1.drop 1 = r by rw [e]; rfl]
  · have h1 : decide (m.2.1 > 0) = false := h1
    have h2 : decide (m.2.2.1 > 0) = false := h2
    have h5 : decide ((m.1.reverse.length : Int) > 1) = false := h5
    rw [List.length_reverse] at h5
    rw [if_neg (by simpa using h1), if_neg (by simpa using h2), if_neg (fun h => by simp at h5; omega)]
  · have h1 : decide (m.2.1 > 0) = false := h1
    have h2 : decide (m.2.2.1 > 0) = false := h2
    have h4 : (!(hd m).2.2) = false := h4
    rw [if_neg (by simpa using h1), if_neg (by simpa using h2), if_neg (fun h => by rw [h.1] at h4; cases h4)]

/-! ### one class after another -/
def stp (c : Int) (right : Bool) (m : Ms) : Ms := if 14 ≤ c ∧ c ≤ 17 then embed c m else if iso c then enter (c == 20 || (c == 21 && right)) m else if c = 22 then leave m else if c = 18 then finish m else m

theorem embed_good {N : Nat} {m : Ms} (h : Good N m) (c : Int) : Good (N + 1) (embed c m) := by
  obtain ⟨l, b, e, hb⟩ := h.bot
  have h1 := h.iso; have h2 := h.emb; have h3 := h.len
  have ht := h.top
  unfold embed
  split
  · rename_i hf
    unfold fit at hf
    simp only [Bool.and_eq_true, decide_eq_true_eq] at hf
    have hn := nx_le (hd m).1 (c == 16 || c == 17) ht.1
    refine ⟨⟨(nx (hd m).1 (c == 16 || c == 17), ov c, false) :: l, b, by dsimp only; rw [e]; rfl, hb⟩, fun x hx => ?_, fun x hx => ?_, ?_, by dsimp only; omega, by dsimp only; omega, by simp only [List.length_cons]; omega⟩
    · rcases List.mem_cons.1 hx with rfl | hx
      · exact ⟨by dsimp only; omega, hf.1⟩
      · exact h.lev x hx
    · rcases List.mem_cons.1 hx with rfl | hx
      · show ov c = 13 ∨ ov c = 0 ∨ ov c = 1
        unfold ov
        repeat' split
        all_goals simp
      · exact h.ovr x hx
    · rw [List.countP_cons_of_neg (by simp)]; exact h.cnt
  · split
    · exact ⟨⟨l, b, e, hb⟩, h.lev, h.ovr, h.cnt, by dsimp only; omega, by dsimp only; omega, by dsimp only; omega⟩
    · exact ⟨⟨l, b, e, hb⟩, h.lev, h.ovr, h.cnt, by omega, by omega, by omega⟩
theorem enter_good {N : Nat} {m : Ms} (h : Good N m) (right : Bool) : Good (N + 1) (enter right m) := by
  obtain ⟨l, b, e, hb⟩ := h.bot
  have h1 := h.iso; have h2 := h.emb; have h3 := h.len
  have ht := h.top
  unfold enter
  split
  · rename_i hf
    unfold fit at hf
    simp only [Bool.and_eq_true, decide_eq_true_eq] at hf
    have hn := nx_le (hd m).1 right ht.1
    refine ⟨⟨(nx (hd m).1 right, 13, true) :: l, b, by dsimp only; rw [e]; rfl, hb⟩, fun x hx => ?_, fun x hx => ?_, ?_, by dsimp only; omega, by dsimp only; omega, by simp only [List.length_cons]; omega⟩
    · rcases List.mem_cons.1 hx with rfl | hx
      · exact ⟨by dsimp only; omega, hf.1⟩
      · exact h.lev x hx
    · rcases List.mem_cons.1 hx with rfl | hx
      · exact .inl rfl
      · exact h.ovr x hx
    · have := h.cnt
      rw [List.countP_cons_of_pos (by simp)]
      dsimp only
      omega
  · exact ⟨⟨l, b, e, hb⟩, h.lev, h.ovr, h.cnt, by dsimp only; omega, by dsimp only; omega, by dsimp only; omega⟩
theorem leave_good {N : Nat} {m : Ms} (h : Good N m) : Good (N + 1) (leave m) := by
  obtain ⟨l, b, e, hb⟩ := h.bot
  have h1 := h.iso; have h2 := h.emb; have h3 := h.len
  unfold leave
  split
  · exact ⟨⟨l, b, e, hb⟩, h.lev, h.ovr, h.cnt, by dsimp only; omega, by dsimp only; omega, by dsimp only; omega⟩
  · split
    · exact ⟨⟨l, b, e, hb⟩, h.lev, h.ovr, h.cnt, by omega, by omega, by omega⟩
    · have hc := h.cnt
      have ho := h.opn
      rw [e] at hc
      obtain ⟨y, l', d1, d2, d3, d4, d5⟩ := dw_spec hb l (by omega)
      have e2 : (dw m.1).drop 1 = l' ++ [b] := by rw [e, d1]; rfl
      refine ⟨⟨l', b, by dsimp only; exact e2, hb⟩, fun x hx => ?_, fun x hx => ?_, ?_, by dsimp only; omega, by dsimp only; omega, ?_⟩
      · dsimp only at hx
        rw [e2] at hx
        exact h.lev x (by rw [e]; exact d4 x hx)
      · dsimp only at hx
        rw [e2] at hx
        exact h.ovr x (by rw [e]; exact d4 x hx)
      · dsimp only
        rw [e2]
        omega
      · dsimp only
        rw [e2]
        rw [e] at h3
        simp only [List.length_append, List.length_singleton] at h3 ⊢
        omega
theorem finish_good {N : Nat} {m : Ms} (h : Good N m) : Good (N + 1) (finish m) := by
  obtain ⟨l, b, e, hb⟩ := h.bot
  have h1 := h.iso; have h2 := h.emb; have h3 := h.len
  have same : Good (N + 1) m := ⟨⟨l, b, e, hb⟩, h.lev, h.ovr, h.cnt, by omega, by omega, by omega⟩
  unfold finish
  split
  · exact same
  · split
    · exact ⟨⟨l, b, e, hb⟩, h.lev, h.ovr, h.cnt, by dsimp only; omega, by dsimp only; omega, by dsimp only; omega⟩
    · split
      · rename_i hc
        obtain ⟨hc1, hc2⟩ := hc
        cases l with
        | nil => rw [e] at hc2; simp at hc2
        | cons a l =>
          have ha : hd m = a := by unfold hd; rw [e]; rfl
          have e2 : m.1.drop 1 = l ++ [b] := by rw [e]; rfl
          rw [ha] at hc1
          refine ⟨⟨l, b, by dsimp only; exact e2, hb⟩, fun x hx => h.lev x (List.mem_of_mem_drop hx), fun x hx => h.ovr x (List.mem_of_mem_drop hx), ?_, by dsimp only; omega, by dsimp only; omega, by simp only [List.length_drop]; omega⟩
          have := h.cnt
          rw [e, List.cons_append, List.countP_cons_of_neg (by simp [hc1])] at this
          dsimp only
          rw [e2]
          exact this
      · exact same
theorem stp_good {N : Nat} {m : Ms} (h : Good N m) (c : Int) (right : Bool) : Good (N + 1) (stp c right m) := by
  unfold stp
  repeat' split
  · exact embed_good h c
  · exact enter_good h _
  · exact leave_good h
  · exact finish_good h
  · have h1 := h.iso; have h2 := h.emb; have h3 := h.len
    exact ⟨h.bot, h.lev, h.ovr, h.cnt, by omega, by omega, by omega⟩

/-- the state ahead of each place -/
def ms (cs : List Int) (lev : Int) : Nat → Ms
  | 0 => ([(lev, 13, false)], 0, 0, 0)
  | k + 1 => stp (cs.getD k 0) (ask cs k) (ms cs lev k)
theorem ms_good (cs : List Int) {lev : Int} (hl : 0 ≤ lev ∧ lev ≤ 1) : ∀ k, Good k (ms cs lev k)
  | 0 => ⟨⟨[], _, rfl, rfl⟩, fun x hx => by rw [List.mem_singleton.1 hx]; dsimp only; omega, fun x hx => by rw [List.mem_singleton.1 hx]; exact .inl rfl, rfl, ⟨Int.le_refl _, Int.le_refl _⟩, ⟨Int.le_refl _, Int.le_refl _⟩, by simp [ms]⟩
  | k + 1 => stp_good (ms_good cs hl k) _ _

/-- the level and the class of a place, by the states ahead of it and behind it -/
def lv1 (lev c : Int) (m m' : Ms) : Int := if 14 ≤ c ∧ c ≤ 17 then -1 else if iso c then (hd m).1 else if c = 22 then (hd m').1 else if c = 18 then -1 else if c = 10 then lev else if c = 9 then -1 else (hd m).1
def cl1 (c : Int) (m m' : Ms) : Int := if 14 ≤ c ∧ c ≤ 17 then c else if iso c then und m c else if c = 22 then und m' c else if c = 18 then c else if c = 10 then c else if c = 9 then c else und m c
def lvs (cs : List Int) (lev : Int) (k : Nat) : Int := lv1 lev (cs.getD k 0) (ms cs lev k) (ms cs lev (k + 1))
def cls (cs : List Int) (lev : Int) (k : Nat) : Int := cl1 (cs.getD k 0) (ms cs lev k) (ms cs lev (k + 1))

theorem embedding_F (c : Int) : bidic_Embedding_F c = some (decide (14 ≤ c ∧ c ≤ 17)) := by
  unfold bidic_Embedding_F bidic_Embedding_T
  refine Post.run (Post.br (fun h => Post.pure ?_) (fun h => Post.br (fun h2 => Post.pure ?_) (fun h2 => Post.br (fun h3 => Post.pure ?_) (fun h3 => Post.pure ?_))))
  · exact (decide_eq_true (by simp at h; omega)).symm
  · exact (decide_eq_true (by simp at h2; omega)).symm
  · exact (decide_eq_true (by simp at h3; omega)).symm
  · simp only [Bool.or_eq_true, Bool.and_eq_true, beq_iff_eq, bne_iff_ne, decide_eq_true_eq, ne_eq, Bool.not_eq_true', beq_eq_false_iff_ne, bne_eq_false_iff_eq, decide_eq_false_iff_not, Decidable.not_not, Bool.or_eq_false_iff, Bool.and_eq_false_iff, Bool.not_eq_false'] at h h2 h3
    by_cases h4 : c = 17
    · subst h4; rfl
    · rw [decide_eq_false (by omega)]
      simpa using h4

theorem set_set {α : Type} (l : List α) (i : Nat) (a b : α) : (l.set i a).set i b = l.set i b := by
  apply List.ext_getElem?
  intro j
  rw [List.getElem?_set, List.length_set, List.getElem?_set, List.getElem?_set]
  by_cases e : i = j
  · rw [if_pos e, if_pos e]
  · rw [if_neg e, if_neg e, if_neg e]

theorem resolve_F (cs : List Int) {lev : Int} (hl : 0 ≤ lev ∧ lev ≤ 1) (hn : cs.length ≤ 4194302) : explicit_Resolve_F cs lev = some (tab cs.length (lvs cs lev), tab cs.length (cls cs lev)) := by
  unfold explicit_Resolve_F explicit_Resolve_T
  refine Post.run (Post.bnd (mk_eq rfl (by omega)) (Post.bnd (mk_eq rfl (by omega)) (Post.bnd (rightward_F cs (by omega)) (Post.bnd (count cs.length
    (fun k => (lev, tab cs.length (part (lvs cs lev) (fun _ => 0) k), tab cs.length (part (cls cs lev) (fun _ => 0) k), enc (ms cs lev k), tab cs.length (ask cs), cs, (cs.length : Int), (k : Int))) (r := (tab cs.length (lvs cs lev), tab cs.length (cls cs lev))) ?_ (fun k hk => ?_) ?_) (Post.pure rfl)))))
  · rw [tab_rep]
    rfl
  · dsimp only
    unfold explicit_Resolve_L6
    have hg := ms_good cs hl k
    have hg2 := ms_good cs hl (k + 1)
    have hms : ms cs lev (k + 1) = stp (cs.getD k 0) (ask cs k) (ms cs lev k) := rfl
    have hlv : lvs cs lev k = lv1 lev (cs.getD k 0) (ms cs lev k) (ms cs lev (k + 1)) := rfl
    have hcl : cls cs lev k = cl1 (cs.getD k 0) (ms cs lev k) (ms cs lev (k + 1)) := rfl
    rw [hms] at hg2
    have hask : iso (cs.getD k 0) = false → True := fun _ => trivial
    rw [toNat_nat, wrap_succ (k := k) (by omega)]
    refine Post.brT (decide_eq_true (by omega)) (Post.idx 0 k rfl hk (ptab k rfl hk (ptab k rfl hk ?_)))
    have il : ∀ {v z : Int} {α : Type} {kk : Int → Tr α} {Q : α → Prop}, Post (kk v) Q → Post (.bnd (idx ((tab cs.length (part (lvs cs lev) (fun _ => 0) k)).set k v) (k : Int)) kk) Q := fun {v z α kk Q} h => Post.bnd (idx_set_at (by omega) (by rw [tab_len]; omega)) h
    have ic : ∀ {v z : Int} {α : Type} {kk : Int → Tr α} {Q : α → Prop}, Post (kk v) Q → Post (.bnd (idx ((tab cs.length (part (cls cs lev) (fun _ => 0) k)).set k v) (k : Int)) kk) Q := fun {v z α kk Q} h => Post.bnd (idx_set_at (by omega) (by rw [tab_len]; omega)) h
    -- what is put at the end of a round
    have fin : ∀ (v w : Int) (m' : Ms), lvs cs lev k = v → cls cs lev k = w → ms cs lev (k + 1) = m' →
        (lev, (tab cs.length (part (lvs cs lev) (fun _ => 0) k)).set k v, (tab cs.length (part (cls cs lev) (fun _ => 0) k)).set k w, enc m', tab cs.length (ask cs), cs, (cs.length : Int), ((k + 1 : Nat) : Int)) =
          (lev, tab cs.length (part (lvs cs lev) (fun _ => 0) (k + 1)), tab cs.length (part (cls cs lev) (fun _ => 0) (k + 1)), enc (ms cs lev (k + 1)), tab cs.length (ask cs), cs, (cs.length : Int), ((k + 1 : Nat) : Int)) := by
      intro v w m' h1 h2 h3
      rw [part_set _ h1, part_set _ h2, h3]
    have hpa : ∀ {α : Type} {kk : Bool → Tr α} {Q : α → Prop}, Post (kk (ask cs k)) Q → Post (.bnd (idx (tab cs.length (ask cs)) (k : Int)) kk) Q := fun h => ptab k rfl hk h
    generalize hc : cs.getD k 0 = c at hms hlv hcl hg2
    refine Post.bnd (embedding_F c) (Post.br (fun h1 => ?_) (fun h1 => ?_))
    · have h1 : 14 ≤ c ∧ c ≤ 17 := by simpa using h1
      refine Post.bnd (embed_F hg (by omega) c) (Post.pure ?_)
      refine congrArg Lap.next (fin _ _ (embed c (ms cs lev k)) ?_ ?_ ?_)
      · rw [hlv]; unfold lv1; rw [if_pos h1]
      · rw [hcl]; unfold cl1; rw [if_pos h1]
      · rw [hms]; unfold stp; rw [if_pos h1]
    have h1 : ¬ (14 ≤ c ∧ c ≤ 17) := by simpa using h1
    refine Post.bnd (isolate_F c) (Post.br (fun h2 => ?_) (fun h2 => ?_))
    · refine Post.bnd (top_F hg (by omega)) (Post.bnd (under_F hg (by omega) c) (il (z := 0) (ic (z := 0) ?_)))
      dsimp only
      rw [set_set, set_set]
      have e1 : lvs cs lev k = (hd (ms cs lev k)).1 := by rw [hlv]; unfold lv1; rw [if_neg h1, if_pos h2]
      have e2 : cls cs lev k = und (ms cs lev k) c := by rw [hcl]; unfold cl1; rw [if_neg h1, if_pos h2]
      have e3 : ms cs lev (k + 1) = enter (c == 20 || (c == 21 && ask cs k)) (ms cs lev k) := by rw [hms]; unfold stp; rw [if_neg h1, if_pos h2]
      refine Post.br (fun h3 => ?_) (fun h3 => Post.br (fun h4 => ?_) (fun h4 => ?_))
      · refine Post.bnd (enter_F hg (by omega) true) (Post.pure (congrArg Lap.next (fin _ _ _ e1 e2 ?_)))
        rw [e3, h3]; rfl
      · refine hpa (Post.bnd (enter_F hg (by omega) (ask cs k)) (Post.pure (congrArg Lap.next (fin _ _ _ e1 e2 ?_))))
        rw [e3, h3, h4]; rfl
      · refine Post.bnd (enter_F hg (by omega) false) (Post.pure (congrArg Lap.next (fin _ _ _ e1 e2 ?_)))
        rw [e3, h3, h4]; rfl
    have h2' : ¬ iso c = true := by rw [h2]; simp
    refine Post.br (fun h3 => ?_) (fun h3 => ?_)
    · have h3 : c = 22 := by simpa using h3
      have e3 : ms cs lev (k + 1) = leave (ms cs lev k) := by rw [hms]; unfold stp; rw [if_neg h1, if_neg h2', if_pos h3]
      have e3' : stp c (ask cs k) (ms cs lev k) = leave (ms cs lev k) := by rw [← hms, e3]
      rw [e3'] at hg2
      refine Post.bnd (leave_F hg (by omega)) (Post.bnd (top_F hg2 (by omega)) (Post.bnd (under_F hg2 (by omega) c) (il (z := 0) (ic (z := 0) (Post.pure ?_)))))
      dsimp only
      rw [set_set, set_set]
      refine congrArg Lap.next (fin _ _ (leave (ms cs lev k)) ?_ ?_ e3)
      · rw [hlv, e3]; unfold lv1; rw [if_neg h1, if_neg h2', if_pos h3]
      · rw [hcl, e3]; unfold cl1; rw [if_neg h1, if_neg h2', if_pos h3]
    have h3 : ¬ c = 22 := by simpa using h3
    refine Post.br (fun h4 => ?_) (fun h4 => ?_)
    · have h4 : c = 18 := by simpa using h4
      refine Post.bnd (end_F hg (by omega)) (Post.pure ?_)
      refine congrArg Lap.next (fin _ _ (finish (ms cs lev k)) ?_ ?_ ?_)
      · rw [hlv]; unfold lv1; rw [if_neg h1, if_neg h2', if_neg h3, if_pos h4]
      · rw [hcl]; unfold cl1; rw [if_neg h1, if_neg h2', if_neg h3, if_pos h4]
      · rw [hms]; unfold stp; rw [if_neg h1, if_neg h2', if_neg h3, if_pos h4]
    have h4 : ¬ c = 18 := by simpa using h4
    have e3 : ms cs lev (k + 1) = ms cs lev k := by rw [hms]; unfold stp; rw [if_neg h1, if_neg h2', if_neg h3, if_neg h4]
    refine Post.br (fun h5 => il (z := 0) (Post.pure ?_)) (fun h5 => ?_)
    · have h5 : c = 10 := by simpa using h5
      rw [set_set]
      refine congrArg Lap.next (fin _ _ (ms cs lev k) ?_ ?_ e3)
      · rw [hlv]; unfold lv1; rw [if_neg h1, if_neg h2', if_neg h3, if_neg h4, if_pos h5]
      · rw [hcl]; unfold cl1; rw [if_neg h1, if_neg h2', if_neg h3, if_neg h4, if_pos h5]
    have h5 : ¬ c = 10 := by simpa using h5
    refine Post.br (fun h6 => ?_) (fun h6 => Post.pure ?_)
    · have h6 : ¬ c = 9 := by simpa using h6
      refine Post.bnd (top_F hg (by omega)) (Post.bnd (under_F hg (by omega) c) (il (z := 0) (ic (z := 0) (Post.pure ?_))))
      dsimp only
      rw [set_set, set_set]
      refine congrArg Lap.next (fin _ _ (ms cs lev k) ?_ ?_ e3)
      · rw [hlv]; unfold lv1; rw [if_neg h1, if_neg h2', if_neg h3, if_neg h4, if_neg h5, if_neg h6]
      · rw [hcl]; unfold cl1; rw [if_neg h1, if_neg h2', if_neg h3, if_neg h4, if_neg h5, if_neg h6]
    · have h6 : c = 9 := by simpa using h6
      refine congrArg Lap.next (fin _ _ (ms cs lev k) ?_ ?_ e3)
      · rw [hlv]; unfold lv1; rw [if_neg h1, if_neg h2', if_neg h3, if_neg h4, if_neg h5, if_pos h6]
      · rw [hcl]; unfold cl1; rw [if_neg h1, if_neg h2', if_neg h3, if_neg h4, if_neg h5, if_pos h6]
  · dsimp only
    unfold explicit_Resolve_L6
    rw [part_end, part_end]
    exact Post.brF (decide_eq_false (by omega)) (Post.pure rfl)

end Go.Proofs.Ytjiehphakabflaa
