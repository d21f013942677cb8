/-
  Which places stand where.
-/
import Derived.Test.YtggnnjofbknjjaaSh
import Derived.Test.YtggnnjofbknjjaaEvMath
namespace Go.Proofs.Ytggnnjofbknjjaa
set_option linter.all false

/-! ### lists -/
theorem getD_append {a b : List Int} {k : Nat} (d : Int) : (a ++ b).getD k d = if k < a.length then a.getD k d else b.getD (k - a.length) d := by
  simp only [List.getD, List.getElem?_append]
  split <;> rfl
theorem getD_reverse {a : List Int} {k : Nat} (d : Int) (h : k < a.length) : a.reverse.getD k d = a.getD (a.length - 1 - k) d := by
  simp only [List.getD]
  rw [List.getElem?_reverse h]
theorem drop_cons {l : List Int} {k : Nat} (h : k < l.length) : l.drop k = l.getD k 0 :: l.drop (k + 1) := by
  rw [List.drop_eq_getElem_cons h]
  simp [List.getD, h]
theorem idx_mid {A B : List Int} {x : Int} {i : Int} (h : i = A.length) : idx (A ++ x :: B) i = some x := by
  rw [idx_getD 0 h (by simp)]
  simp [List.getD]

/-! ### turning around in place -/
def sw (g : Nat → Int) (a b i : Nat) : Nat → Int := fun p => if a ≤ p ∧ p < b ∧ (p < a + i ∨ b ≤ p + i) then g (a + b - 1 - p) else g p
def swAll (g : Nat → Int) (a b : Nat) : Nat → Int := fun p => if a ≤ p ∧ p < b then g (a + b - 1 - p) else g p
theorem sw_zero (g : Nat → Int) (a b n : Nat) : tab n (sw g a b 0) = tab n g := tab_congr fun p hp => by
  unfold sw; rw [if_neg (by omega)]
theorem sw_end (g : Nat → Int) (a b i n : Nat) (h : b ≤ a + 2 * i + 1) : tab n (sw g a b i) = tab n (swAll g a b) := tab_congr fun p hp => by
  unfold sw swAll
  by_cases h1 : a ≤ p ∧ p < b
  · rw [if_pos h1]
    by_cases h2 : p < a + i ∨ b ≤ p + i
    · rw [if_pos ⟨h1.1, h1.2, h2⟩]
    · rw [if_neg (by omega), show a + b - 1 - p = p by omega]
  · rw [if_neg (by omega), if_neg h1]
theorem sw_step (g : Nat → Int) (a b i n : Nat) (h : a + 2 * i + 1 < b) (hb : b ≤ n) : ((tab n (sw g a b i)).set (a + i) (sw g a b i (b - 1 - i))).set (b - 1 - i) (sw g a b i (a + i)) = tab n (sw g a b (i + 1)) := by
  rw [tab_set, tab_set]
  refine tab_congr fun p hp => ?_
  unfold sw
  by_cases h1 : p = b - 1 - i
  · subst h1
    rw [if_pos rfl, if_neg (by omega), if_pos (by omega)]
    congr 1; omega
  · rw [if_neg h1]
    by_cases h2 : p = a + i
    · subst h2
      rw [if_pos rfl, if_neg (by omega), if_pos (by omega)]
      congr 1; omega
    · rw [if_neg h2]
      by_cases h3 : a ≤ p ∧ p < b ∧ (p < a + i ∨ b ≤ p + i)
      · rw [if_pos h3, if_pos (by omega)]
      · rw [if_neg h3, if_neg (by omega)]

theorem revLoop (g : Nat → Int) (n : Nat) (hn : n ≤ 4194304) : loopW (fun s : List Int × Int × Int => (slices_Reverse___int_int__L1 s.1 s.2.1 s.2.2).run) (tab n g, 0, (n : Int) - 1) = some (tab n (swAll g 0 n)) := by
  refine Exists.elim (loop_ex (L := fun s : List Int × Int × Int => slices_Reverse___int_int__L1 s.1 s.2.1 s.2.2) (fun s => ∃ i : Nat, s = (tab n (sw g 0 n i), (i : Int), (n : Int) - 1 - i) ∧ i ≤ n) (fun s => n + 1 - s.2.1.toNat) (R := fun r => r = tab n (swAll g 0 n)) (s0 := (tab n g, 0, (n : Int) - 1)) (fun s hs => ?_) ⟨0, by rw [sw_zero]; simp, by omega⟩) (fun r hr => by rw [hr.1, hr.2])
  obtain ⟨i, rfl, hi⟩ := hs
  dsimp only
  unfold slices_Reverse___int_int__L1
  by_cases h : 2 * i + 1 < n
  · have e : (n : Int) - 1 - i = ((n - 1 - i : Nat) : Int) := by omega
    rw [e]
    (first | refine Post.brT (by simp only [zA, zB, zC, zD, zE, zF, zG, zH, zI, zJ, zK, zL, zM, zN]; omega) ?_ | refine Post.brF (by simp only [zA, zB, zC, zD, zE, zF, zG, zH, zI, zJ, zK, zL, zM, zN]; omega) ?_)
    (first | refine ptab _ rfl (by omega) ?_ | refine Post.bnd (idx_set_at (by omega) (by simp only [List.length_set, tab_len]; omega)) ?_)
    (first | refine ptab _ rfl (by omega) ?_ | refine Post.bnd (idx_set_at (by omega) (by simp only [List.length_set, tab_len]; omega)) ?_)
    (first | refine ptab _ rfl (by omega) ?_ | refine Post.bnd (idx_set_at (by omega) (by simp only [List.length_set, tab_len]; omega)) ?_)
    (first | refine ptab _ rfl (by omega) ?_ | refine Post.bnd (idx_set_at (by omega) (by simp only [List.length_set, tab_len]; omega)) ?_)
    (first | refine ptab _ rfl (by omega) ?_ | refine Post.bnd (idx_set_at (by omega) (by simp only [List.length_set, tab_len]; omega)) ?_)
    (first | refine ptab _ rfl (by omega) ?_ | refine Post.bnd (idx_set_at (by omega) (by simp only [List.length_set, tab_len]; omega)) ?_)
    have l : ∀ v : Int, ((tab n (sw g 0 n i)).set (Int.toNat (i : Int)) v).length = n := fun v => by rw [List.length_set, tab_len]
    refine Post.bnd (idx_getD 0 rfl (by rw [l]; omega)) (Post.bnd (idx_getD 0 rfl (by rw [l]; omega)) (Post.pure ⟨⟨i + 1, ?_, by omega⟩, ?_⟩))
    · have := sw_step g 0 n i n (by omega) (by omega)
      rw [Nat.zero_add] at this
      rw [toNat_nat, toNat_nat, this, wrap_succ (by omega), wrap64 (by omega) (by omega)]
      congr 2; omega
    · dsimp only
      rw [wrap_succ (by omega), toNat_nat, toNat_nat]; omega
  · (first | refine Post.brT (by simp only [zA, zB, zC, zD, zE, zF, zG, zH, zI, zJ, zK, zL, zM, zN]; omega) ?_ | refine Post.brF (by simp only [zA, zB, zC, zD, zE, zF, zG, zH, zI, zJ, zK, zL, zM, zN]; omega) ?_)
    exact Post.pure (sw_end g 0 n i n (by omega))
theorem reverse_F (xs : List Int) (hn : xs.length ≤ 4194304) : slices_Reverse___int_int__F xs = some (xs.reverse, ()) := by
  unfold slices_Reverse___int_int__F slices_Reverse___int_int__T
  have h := revLoop (fun i => xs.getD i 0) xs.length hn
  rw [← tab_self] at h
  rw [wrap64 (by omega) (by omega)]
  refine Post.run (Post.bnd h (Post.pure ?_))
  rw [← tab_ext (xs := xs.reverse) (n := xs.length) (g := swAll (fun i => xs.getD i 0) 0 xs.length) 0 (by simp) (fun k hk => ?_)]
  unfold swAll
  rw [if_pos (by omega), getD_reverse 0 hk, show 0 + xs.length - 1 - k = xs.length - 1 - k by omega]

/-! ### all parts that stand together -/
def rr (p : Int → Bool) : List Int → List Int → List Int
  | acc, [] => acc
  | acc, x :: r => if p x = true then rr p (x :: acc) r else acc ++ x :: rr p [] r
theorem rr_run {p : Int → Bool} : ∀ {run acc B : List Int}, (∀ x ∈ run, p x = true) → rr p acc (run ++ B) = rr p (run.reverse ++ acc) B
  | [], acc, B, _ => rfl
  | x :: run, acc, B, h => by
    show (if p x = true then rr p (x :: acc) (run ++ B) else _) = _
    rw [if_pos (h x (by simp)), rr_run fun y hy => h y (by simp [hy])]
    simp
theorem rr_stop {p : Int → Bool} {acc B : List Int} {x : Int} (h : p x = false) : rr p acc (x :: B) = acc ++ x :: rr p [] B := by
  show (if p x = true then _ else _) = _
  rw [if_neg (by simp [h])]
theorem rr_perm {p : Int → Bool} : ∀ (l acc : List Int), (rr p acc l).Perm (acc ++ l)
  | [], acc => by rw [show rr p acc [] = acc from rfl, List.append_nil]
  | x :: r, acc => by
    cases h : p x with
    | true =>
      rw [show rr p acc (x :: r) = rr p (x :: acc) r from if_pos h]
      exact (rr_perm r (x :: acc)).trans (List.perm_middle.symm)
    | false =>
      rw [rr_stop h]
      exact List.Perm.append_left acc (List.Perm.cons x (rr_perm r []))
theorem rr_congr {p q : Int → Bool} : ∀ {l acc : List Int}, (∀ x ∈ l, p x = q x) → rr p acc l = rr q acc l
  | [], _, _ => rfl
  | x :: r, acc, h => by
    show (if p x = true then _ else _) = (if q x = true then _ else _)
    rw [h x (by simp), rr_congr (l := r) (acc := x :: acc) fun y hy => h y (by simp [hy]), rr_congr (l := r) (acc := []) fun y hy => h y (by simp [hy])]
theorem rr_none {p : Int → Bool} : ∀ {l : List Int}, (∀ x ∈ l, p x = false) → rr p [] l = l
  | [], _ => rfl
  | x :: r, h => by rw [rr_stop (h x (by simp)), rr_none fun y hy => h y (by simp [hy])]; rfl
theorem rr_all {p : Int → Bool} {l : List Int} (h : ∀ x ∈ l, p x = true) : rr p [] l = l.reverse := by
  have := rr_run (acc := []) (B := []) h
  rw [List.append_nil, List.append_nil] at this
  exact this
theorem rr_cut {p : Int → Bool} {x : Int} (h : p x = false) (w : List Int) : ∀ (u acc : List Int), rr p acc (u ++ x :: w) = rr p acc u ++ x :: rr p [] w
  | [], acc => rr_stop h
  | y :: u, acc => by
    cases hy : p y with
    | true =>
      rw [show rr p acc (y :: u ++ x :: w) = rr p (y :: acc) (u ++ x :: w) from if_pos hy, rr_cut h w u, show rr p acc (y :: u) = rr p (y :: acc) u from if_pos hy]
    | false =>
      rw [show y :: u ++ x :: w = y :: (u ++ x :: w) from rfl, rr_stop hy, rr_stop hy, rr_cut h w u]
      simp
theorem rr_map {p : Int → Bool} (f : Int → Int) : ∀ (l acc : List Int), rr p (acc.map f) (l.map f) = (rr (fun x => p (f x)) acc l).map f
  | [], acc => rfl
  | x :: r, acc => by
    rw [List.map_cons]
    cases h : p (f x) with
    | true =>
      rw [show rr p (acc.map f) (f x :: r.map f) = rr p ((x :: acc).map f) (r.map f) from if_pos h, rr_map f r (x :: acc), show rr (fun x => p (f x)) acc (x :: r) = rr (fun x => p (f x)) (x :: acc) r from if_pos h]
    | false =>
      rw [rr_stop h, rr_stop (p := fun x => p (f x)) h, List.map_append, List.map_cons, ← rr_map f r []]
      rfl

/-- at a level, or above it -/
def at_ (L : List Int) (l : Int) (x : Int) : Bool := decide (L.getD x.toNat 0 ≥ l)
def Valid (L v : List Int) : Prop := ∀ x ∈ v, 0 ≤ x ∧ x < L.length
theorem Valid.rr {L v : List Int} {p : Int → Bool} (h : Valid L v) : Valid L (rr p [] v) := fun x hx => h x (by simpa using (rr_perm v []).mem_iff.1 hx)
theorem Valid.idx {L v : List Int} (h : Valid L v) {x : Int} (hx : x ∈ v) : idx L x = some (L.getD x.toNat 0) := by
  have := h x hx
  exact idx_getD 0 (by omega) (by omega)

theorem scan {L : List Int} {l f : Int} : ∀ {B A : List Int}, Valid L (A ++ B) → (A ++ B).length ≤ 4194304 → ∃ run rest, B = run ++ rest ∧ (∀ x ∈ run, at_ L l x = true) ∧ (rest = [] ∨ ∃ x r, rest = x :: r ∧ at_ L l x = false) ∧
    loopW (fun s : List Int × List Int × Int × Int × Int => (order_reverse_L3 s.1 s.2.1 s.2.2.1 s.2.2.2.1 s.2.2.2.2).run) (A ++ B, L, l, f, (A.length : Int)) = some (A ++ B, L, l, f, ((A.length + run.length : Nat) : Int))
  | [], A, _, hn => by
    refine ⟨[], [], rfl, (fun x hx => by cases hx), .inl rfl, loopW_done (Post.run ?_)⟩
    dsimp only
    unfold order_reverse_L3
    refine Post.brF (by simp) (Post.pure rfl)
  | x :: B, A, hv, hn => by
    have hx := hv.idx (x := x) (by simp)
    have hlen : (A ++ x :: B).length = A.length + (B.length + 1) := by simp
    cases h : at_ L l x with
    | false =>
      refine ⟨[], x :: B, rfl, (fun x hx => by cases hx), .inr ⟨x, B, rfl, h⟩, loopW_done (Post.run ?_)⟩
      dsimp only
      unfold order_reverse_L3
      refine Post.brT (by rw [decide_eq_true_eq]; omega) (Post.bnd (idx_mid rfl) (Post.bnd (idx_mid rfl) (Post.bnd hx (Post.brF h (Post.pure rfl)))))
    | true =>
      have e : A ++ x :: B = (A ++ [x]) ++ B := by simp
      obtain ⟨run, rest, h1, h2, h3, h4⟩ := scan (L := L) (l := l) (f := f) (B := B) (A := A ++ [x]) (by rw [← e]; exact hv) (by rw [← e]; exact hn)
      refine ⟨x :: run, rest, by rw [h1]; rfl, fun y hy => ?_, h3, loopW_next (Post.run ?_) (h4.trans ?_)⟩
      · rcases List.mem_cons.1 hy with rfl | hy
        · exact h
        · exact h2 y hy
      · dsimp only
        unfold order_reverse_L3
        refine Post.brT (by rw [decide_eq_true_eq]; omega) (Post.bnd (idx_mid rfl) (Post.bnd (idx_mid rfl) (Post.bnd hx (Post.brT h (Post.pure ?_)))))
        rw [wrap_succ (by omega), e]; simp
      · rw [← e]
        congr 5
        simp; omega

theorem splice_mid (A R R' C : List Int) (n : Nat) (h : n = A.length) : splice' (A ++ (R ++ C)) n R.length R' = A ++ (R' ++ C) := by
  subst h
  simp [splice', List.drop_append]

theorem order_loop {L : List Int} {l : Int} : ∀ (m : Nat) (B A : List Int), B.length ≤ m → Valid L (A ++ B) → (A ++ B).length ≤ 4194304 →
    loopW (fun s : List Int × List Int × Int × Int => (order_reverse_L1 s.1 s.2.1 s.2.2.1 s.2.2.2).run) (A ++ B, L, l, (A.length : Int)) = some (A ++ rr (at_ L l) [] B) := by
  intro m
  induction m with
  | zero =>
    intro B A hm hv hn
    have : B = [] := List.length_eq_zero_iff.1 (by omega)
    subst this
    refine loopW_done (Post.run ?_)
    dsimp only
    unfold order_reverse_L1
    exact Post.brF (by simp) (Post.pure rfl)
  | succ m ih =>
    intro B A hm hv hn
    cases B with
    | nil =>
      refine loopW_done (Post.run ?_)
      dsimp only
      unfold order_reverse_L1
      exact Post.brF (by simp) (Post.pure rfl)
    | cons b B =>
      obtain ⟨run, rest, h1, h2, h3, h4⟩ := scan (L := L) (l := l) (f := (A.length : Int)) (B := b :: B) (A := A) hv hn
      rw [h1] at hv hn hm h4 ⊢
      have hl : (A ++ (run ++ rest)).length = A.length + (run.length + rest.length) := by simp
      have hcut : cut (A ++ (run ++ rest)) (A.length : Int) ((A.length + run.length : Nat) : Int) = some run := by
        rw [cut_drop rfl rfl (by omega) (by omega)]
        simp [List.take_append]
      have harg : ((A ++ (run ++ rest)).drop (A.length : Int).toNat).take run.length = run := by simp
      have step : ∀ {r : List Int}, loopW (fun s : List Int × List Int × Int × Int => (order_reverse_L1 s.1 s.2.1 s.2.2.1 s.2.2.2).run) (A ++ (run.reverse ++ rest), L, l, ((A.length + run.length + 1 : Nat) : Int)) = some r →
          loopW (fun s : List Int × List Int × Int × Int => (order_reverse_L1 s.1 s.2.1 s.2.2.1 s.2.2.2).run) (A ++ (run ++ rest), L, l, (A.length : Int)) = some r := by
        intro r hr
        refine loopW_next (Post.run ?_) hr
        dsimp only
        unfold order_reverse_L1
        have h0 : 0 < (run ++ rest).length := by rw [← h1]; simp
        refine Post.brT (by rw [decide_eq_true_eq, hl]; rw [List.length_append] at h0; omega) (Post.bnd h4 ?_)
        dsimp only
        refine Post.bnd hcut (Post.bnd (b := (run.reverse, ())) ?_ (Post.pure ?_))
        · rw [harg]; exact reverse_F run (by omega)
        · dsimp only
          rw [splice_mid _ _ _ _ _ (toNat_nat A.length), wrap_succ (by omega)]
      refine step ?_
      rw [rr_run h2, List.append_nil]
      rcases h3 with rfl | ⟨x, r, rfl, hx⟩
      · refine loopW_done (Post.run ?_)
        dsimp only
        unfold order_reverse_L1
        exact Post.brF (by simp; omega) (Post.pure (by simp [rr]))
      · have e : A ++ (run.reverse ++ x :: r) = (A ++ run.reverse ++ [x]) ++ r := by simp
        have e2 : ((A.length + run.length + 1 : Nat) : Int) = ((A ++ run.reverse ++ [x]).length : Int) := by simp; omega
        rw [e, e2, ih r (A ++ run.reverse ++ [x]) (by simp at hm; omega) (fun y hy => hv y (by simp at hy ⊢; grind)) (by simp at hn ⊢; omega), rr_stop hx]
        simp

theorem orderReverse_F (L v : List Int) (l : Int) (hv : Valid L v) (hn : v.length ≤ 4194304) : order_reverse_F v L l = some (rr (at_ L l) [] v, ()) := by
  unfold order_reverse_F order_reverse_T
  exact Post.run (Post.bnd (order_loop v.length v [] (by omega) hv hn) (Post.pure rfl))

/-! ### which vplaces stand where -/
def vplaces (g : Nat → Int) : Nat → List Int
  | 0 => []
  | k + 1 => if g k = -1 then vplaces g k else vplaces g k ++ [(k : Int)]
def tp (g : Nat → Int) : Nat → Int
  | 0 => 0
  | k + 1 => if g k = -1 then tp g k else if (if 126 < g k then 126 else g k) > tp g k then (if 126 < g k then 126 else g k) else tp g k
def mt (g : Nat → Int) : Nat → Int
  | 0 => 0
  | k + 1 => if g k = -1 then mt g k else if g k > mt g k then g k else mt g k
def vl (L : List Int) : Nat → List Int → List Int
  | 0, v => v
  | l + 1, v => vl L l (rr (at_ L ((l + 1 : Nat) : Int)) [] v)
def vis (L : List Int) : List Int := vl L (tp (fun i => L.getD i 0) L.length).toNat (vplaces (fun i => L.getD i 0) L.length)

theorem vplaces_mem (g : Nat → Int) : ∀ n x, x ∈ vplaces g n ↔ ∃ k : Nat, k < n ∧ x = (k : Int) ∧ g k ≠ -1
  | 0, x => by simp [vplaces]
  | n + 1, x => by
    have ih := vplaces_mem g n x
    unfold vplaces
    by_cases h : g n = -1
    · rw [if_pos h, ih]
      constructor
      · rintro ⟨k, h1, h2, h3⟩; exact ⟨k, by omega, h2, h3⟩
      · rintro ⟨k, h1, h2, h3⟩
        refine ⟨k, ?_, h2, h3⟩
        by_cases e : k = n
        · subst e; exact absurd h h3
        · omega
    · rw [if_neg h, List.mem_append, ih, List.mem_singleton]
      constructor
      · rintro (⟨k, h1, h2, h3⟩ | rfl)
        · exact ⟨k, by omega, h2, h3⟩
        · exact ⟨n, by omega, rfl, h⟩
      · rintro ⟨k, h1, h2, h3⟩
        by_cases e : k = n
        · subst e; exact .inr h2
        · exact .inl ⟨k, by omega, h2, h3⟩
theorem vplaces_nodup (g : Nat → Int) : ∀ n, (vplaces g n).Nodup
  | 0 => List.nodup_nil
  | n + 1 => by
    unfold vplaces
    split
    · exact vplaces_nodup g n
    · rw [List.nodup_append]
      refine ⟨vplaces_nodup g n, by simp, fun a ha b hb => ?_⟩
      obtain ⟨k, h1, h2, _⟩ := (vplaces_mem g n a).1 ha
      rw [List.mem_singleton] at hb
      omega
theorem vplaces_len (g : Nat → Int) : ∀ n, (vplaces g n).length ≤ n
  | 0 => by simp [vplaces]
  | n + 1 => by
    have := vplaces_len g n
    unfold vplaces
    split
    · omega
    · rw [List.length_append, List.length_singleton]; omega
theorem vplaces_valid (L : List Int) : Valid L (vplaces (fun i => L.getD i 0) L.length) := fun x hx => by
  obtain ⟨k, h1, h2, _⟩ := (vplaces_mem _ _ x).1 hx
  omega
theorem tp_range (g : Nat → Int) : ∀ n, 0 ≤ tp g n ∧ tp g n ≤ 126
  | 0 => by simp [tp]
  | n + 1 => by
    have := tp_range g n
    unfold tp
    split
    · exact this
    · split <;> split <;> omega
theorem tp_mt (g : Nat → Int) : ∀ n, 0 ≤ mt g n ∧ tp g n = if mt g n > 126 then 126 else mt g n
  | 0 => by simp [tp, mt]
  | n + 1 => by
    obtain ⟨h0, h1⟩ := tp_mt g n
    unfold tp mt
    rw [h1]
    by_cases h : g n = -1
    · rw [if_pos h, if_pos h]; exact ⟨h0, rfl⟩
    · rw [if_neg h, if_neg h]
      generalize mt g n = m at *
      generalize g n = q at *
      refine ⟨by split <;> omega, ?_⟩
      repeat' split
      all_goals omega
theorem tp_ge (g : Nat → Int) : ∀ n k, k < n → g k ≠ -1 → g k ≤ 126 → g k ≤ tp g n
  | 0, k, h, _, _ => by omega
  | n + 1, k, h, h1, h2 => by
    have mono : tp g n ≤ tp g (n + 1) := by
      rw [show tp g (n + 1) = if g n = -1 then tp g n else if (if 126 < g n then 126 else g n) > tp g n then (if 126 < g n then 126 else g n) else tp g n from rfl]
      repeat' split
      all_goals omega
    by_cases e : k = n
    · subst e
      rw [show tp g (k + 1) = if g k = -1 then tp g k else if (if 126 < g k then 126 else g k) > tp g k then (if 126 < g k then 126 else g k) else tp g k from rfl, if_neg h1]
      repeat' split
      all_goals omega
    · have := tp_ge g n k (by omega) h1 h2
      omega

theorem vl_perm (L : List Int) : ∀ l v, (vl L l v).Perm v
  | 0, v => List.Perm.refl v
  | l + 1, v => (vl_perm L l _).trans (by simpa using rr_perm v [])
theorem vl_loop {L : List Int} : ∀ (l : Nat) (v : List Int), l ≤ 126 → Valid L v → v.length ≤ 4194304 → loopW (fun s : List Int × List Int × Int => (order_Visual_L11 s.1 s.2.1 s.2.2).run) (L, v, (l : Int)) = some (vl L l v)
  | 0, v, _, _, _ => by
    refine loopW_done (Post.run ?_)
    dsimp only
    unfold order_Visual_L11
    exact Post.brF (by simp) (Post.pure rfl)
  | l + 1, v, hl, hv, hn => by
    refine loopW_next (Post.run ?_) (vl_loop l (rr (at_ L ((l + 1 : Nat) : Int)) [] v) (by omega) hv.rr (by rw [(rr_perm v []).length_eq]; exact hn))
    dsimp only
    unfold order_Visual_L11
    refine Post.brT (by rw [decide_eq_true_eq]; omega) (Post.bnd (orderReverse_F L v _ hv hn) (Post.pure ?_))
    rw [wrap64 (by omega) (by omega), show ((l + 1 : Nat) : Int) - 1 = (l : Int) by omega]

theorem visual_F (L : List Int) (hn : L.length ≤ 4194304) : order_Visual_F L = some (vis L) := by
  unfold order_Visual_F order_Visual_T
  have ht := tp_range (fun i => L.getD i 0) L.length
  refine Post.run (Post.bnd (count (L := fun s : List Int × List Int × Int × List Int × Int × Int => order_Visual_L4 s.1 s.2.1 s.2.2.1 s.2.2.2.1 s.2.2.2.2.1 s.2.2.2.2.2) L.length (fun k => (L, vplaces (fun i => L.getD i 0) k, tp (fun i => L.getD i 0) k, L, (L.length : Int), (k : Int))) (r := (L, vplaces (fun i => L.getD i 0) L.length, tp (fun i => L.getD i 0) L.length)) rfl (fun k hk => ?_) ?_) ?_)
  · dsimp only
    have hp := vplaces_len (fun i => L.getD i 0) k
    unfold order_Visual_L4
    refine Post.brT (by rw [decide_eq_true_eq]; omega) (Post.idx 0 k rfl hk ?_)
    rw [wrap_succ (by omega)]
    by_cases h : L.getD k 0 = -1
    · (first | refine Post.brT (by simp only [zA, zB, zC, zD, zE, zF, zG, zH, zI, zJ, zK, zL, zM, zN]; omega) ?_ | refine Post.brF (by simp only [zA, zB, zC, zD, zE, zF, zG, zH, zI, zJ, zK, zL, zM, zN]; omega) ?_)
      rw [show vplaces (fun i => L.getD i 0) (k + 1) = vplaces (fun i => L.getD i 0) k from if_pos h, show tp (fun i => L.getD i 0) (k + 1) = tp (fun i => L.getD i 0) k from if_pos h]
      exact Post.pure rfl
    · (first | refine Post.brT (by simp only [zA, zB, zC, zD, zE, zF, zG, zH, zI, zJ, zK, zL, zM, zN]; omega) ?_ | refine Post.brF (by simp only [zA, zB, zC, zD, zE, zF, zG, zH, zI, zJ, zK, zL, zM, zN]; omega) ?_)
      refine Post.bnd (app_eq (by simp only [List.length_cons, List.length_nil]; omega)) (Post.pure ?_)
      rw [show vplaces (fun i => L.getD i 0) (k + 1) = vplaces (fun i => L.getD i 0) k ++ [(k : Int)] from if_neg h, show tp (fun i => L.getD i 0) (k + 1) = _ from if_neg h]
  · dsimp only
    unfold order_Visual_L4
    exact Post.brF (by simp) (Post.pure rfl)
  · dsimp only
    have h := vl_loop (L := L) (tp (fun i => L.getD i 0) L.length).toNat (vplaces (fun i => L.getD i 0) L.length) (by omega) (vplaces_valid L) (by have := vplaces_len (fun i => L.getD i 0) L.length; omega)
    rw [show (((tp (fun i => L.getD i 0) L.length).toNat : Nat) : Int) = tp (fun i => L.getD i 0) L.length by omega] at h
    exact Post.bnd h (Post.pure rfl)

theorem vis_mem (L : List Int) (x : Int) : x ∈ vis L ↔ ∃ k : Nat, k < L.length ∧ x = (k : Int) ∧ L.getD k 0 ≠ -1 := (vl_perm _ _ _).mem_iff.trans (vplaces_mem _ _ x)
theorem vis_nodup (L : List Int) : (vis L).Nodup := (vl_perm _ _ _).nodup_iff.2 (vplaces_nodup _ _)
theorem vis_len (L : List Int) : (vis L).length ≤ L.length := by
  have := vplaces_len (fun i => L.getD i 0) L.length
  unfold vis
  rw [(vl_perm _ _ _).length_eq]; exact this
end Go.Proofs.Ytggnnjofbknjjaa
