/-
  What trie.Check, trie.flat, Get and Pages come to.
-/
import Derived.Test.YtemapfidlomkhaaDoorSh
namespace Go.Proofs.YtemapfidlomkhaaDoor
set_option linter.all false

abbrev Rg := Int × Int × Int
/-- the value of a rune: of the first range that has it -/
def ofv : List Rg → Int → Int → Int
  | [], d, _ => d
  | x :: l, d, r => if x.1 ≤ r ∧ r ≤ x.2.1 then x.2.2 else ofv l d r
/-- ranges that rise -/
def OkR : Int → List Rg → Prop
  | _, [] => True
  | last, x :: l => (0 ≤ x.1 ∧ x.2.1 ≤ 1114111 ∧ x.1 ≤ x.2.1 ∧ last < x.1) ∧ OkR x.2.1 l
/-- the first range that is wrong -/
def chk (last : Int) (k : Int) : List Rg → Option (Int × Int)
  | [] => none
  | x :: l => if x.1 < 0 ∨ x.2.1 > 1114111 ∨ x.2.1 < x.1 then some (k, 4) else if x.1 ≤ last then some (k, 5) else chk x.2.1 (k + 1) l
theorem chk_ok : ∀ {l : List Rg} {last k : Int}, chk last k l = none ↔ OkR last l
  | [], _, _ => by simp [chk, OkR]
  | x :: l, last, k => by
    unfold chk OkR
    split
    · simp; omega
    · split
      · simp; omega
      · rw [chk_ok]
        constructor
        · intro h; exact ⟨by omega, h⟩
        · exact fun h => h.2
theorem chk_at : ∀ {l : List Rg} {last k : Int} {q : Int × Int}, chk last k l = some q → k ≤ q.1 ∧ (q.2 = 4 ∨ q.2 = 5)
  | [], _, _, _, h => by cases h
  | x :: l, last, k, q, h => by
    unfold chk at h
    split at h
    · cases h; exact ⟨Int.le_refl _, .inl rfl⟩
    · split at h
      · cases h; exact ⟨Int.le_refl _, .inr rfl⟩
      · have := chk_at h
        exact ⟨by omega, this.2⟩

theorem wrapS {k : Nat} (h : k + 1 ≤ 9223372036854775807) : IntKind.i64.wrap ((k : Int) + 1) = ((k + 1 : Nat) : Int) := by rw [wrap64 (by omega) (by omega)]; omega
theorem wrapI32 {n : Int} (h1 : -2147483648 ≤ n) (h2 : n ≤ 2147483647) : IntKind.i32.wrap n = n := by
  simp only [IntKind.wrap, IntKind.signed, IntKind.bits]
  simp
  omega
theorem idx_mid {α : Type} {xs pre l : List α} {x : α} (h : xs = pre ++ x :: l) {i : Int} (hi : i = pre.length) : idx xs i = some x := by
  subst h hi
  unfold idx
  rw [if_pos (by omega)]
  simp

abbrev rangeS : ByteArray := ByteArray.mk #[114, 97, 110, 103, 101]
theorem check_loop {rs : List Rg} (hl : rs.length ≤ 9223372036854775807) : ∀ (l pre : List Rg) (last : Int), rs = pre ++ l →
    loopW (fun s : Int × List Rg × Int × Int => (trie_Check_L3 s.1 s.2.1 s.2.2.1 s.2.2.2).run) (last, rs, (rs.length : Int), (pre.length : Int)) =
      some (match chk last pre.length l with | none => .inl () | some q => .inr (some (q.2, rangeS, q.1)))
  | [], pre, last, h => loopW_done (Post.run (Post.brF (by simp [h]) (Post.pure rfl)))
  | x :: l, pre, last, h => by
    have hlt : pre.length < rs.length := by rw [h]; simp
    have hx := idx_mid h rfl
    have hb : decide ((pre.length : Int) < (rs.length : Int)) = true := decide_eq_true (by omega)
    unfold chk
    by_cases h1 : x.1 < 0
    · rw [if_pos (.inl h1)]
      exact loopW_done (Post.run (Post.brT hb (Post.bnd hx (Post.bnd rfl (Post.brT (decide_eq_true h1) (Post.bnd rfl (Post.pure rfl)))))))
    by_cases h2 : x.2.1 > 1114111
    · rw [if_pos (.inr (.inl h2))]
      exact loopW_done (Post.run (Post.brT hb (Post.bnd hx (Post.bnd rfl (Post.brF (decide_eq_false h1) (Post.bnd rfl (Post.brT (decide_eq_true h2) (Post.bnd rfl (Post.pure rfl)))))))))
    by_cases h3 : x.2.1 < x.1
    · rw [if_pos (.inr (.inr h3))]
      exact loopW_done (Post.run (Post.brT hb (Post.bnd hx (Post.bnd rfl (Post.brF (decide_eq_false h1) (Post.bnd rfl (Post.brF (decide_eq_false h2) (Post.bnd rfl (Post.bnd rfl (Post.brT (decide_eq_true h3) (Post.bnd rfl (Post.pure rfl))))))))))))
    rw [if_neg (by omega)]
    by_cases h4 : x.1 ≤ last
    · rw [if_pos h4]
      exact loopW_done (Post.run (Post.brT hb (Post.bnd hx (Post.bnd rfl (Post.brF (decide_eq_false h1) (Post.bnd rfl (Post.brF (decide_eq_false h2) (Post.bnd rfl (Post.bnd rfl (Post.brF (decide_eq_false h3) (Post.bnd rfl (Post.brT (decide_eq_true h4) (Post.bnd rfl (Post.pure rfl)))))))))))))) 
    rw [if_neg h4]
    have ih := check_loop hl l (pre ++ [x]) x.2.1 (by rw [h]; simp)
    rw [show ((pre ++ [x]).length : Int) = (pre.length : Int) + 1 by simp] at ih
    refine loopW_next (Post.run (Post.brT hb (Post.bnd hx (Post.bnd rfl (Post.brF (decide_eq_false h1) (Post.bnd rfl (Post.brF (decide_eq_false h2) (Post.bnd rfl (Post.bnd rfl (Post.brF (decide_eq_false h3) (Post.bnd rfl (Post.brF (decide_eq_false h4) (Post.bnd rfl (Post.pure ?_)))))))))))))) ih
    dsimp only
    rw [wrap64 (by omega) (by omega)]
theorem check_F {rs : List Rg} (hl : rs.length ≤ 9223372036854775807) : trie_Check_F rs = some ((chk (-1) 0 rs).map fun q => (q.2, rangeS, q.1)) := by
  have h := check_loop hl rs [] (-1) rfl
  cases hc : chk (-1) 0 rs with
  | none =>
    rw [show ((([] : List Rg).length : Nat) : Int) = 0 from rfl, hc] at h
    exact Post.run (Post.altL h (Post.pure rfl))
  | some q =>
    rw [show ((([] : List Rg).length : Nat) : Int) = 0 from rfl, hc] at h
    exact Post.run (Post.altR h (Post.pure rfl))

def B32 (l : List Rg) : Prop := ∀ x ∈ l, (-2147483648 ≤ x.1 ∧ x.1 ≤ 2147483647) ∧ (-2147483648 ≤ x.2.1 ∧ x.2.1 ≤ 2147483647) ∧ 0 ≤ x.2.2 ∧ x.2.2 ≤ 255
theorem OkR.b32 : ∀ {l : List Rg} {last : Int}, OkR last l → (∀ x ∈ l, 0 ≤ x.2.2 ∧ x.2.2 ≤ 255) → B32 l
  | [], _, _, _ => fun _ h => by simp at h
  | x :: l, last, h, hv => by
    intro y hy
    unfold OkR at h
    rcases List.mem_cons.1 hy with rfl | hy
    · exact ⟨by omega, by omega, hv _ (by simp)⟩
    · exact h.2.b32 (fun z hz => hv z (by simp [hz])) y hy
theorem first_loop {rs : List Rg} (hl : rs.length ≤ 9223372036854775807) (h32 : B32 rs) : ∀ (l pre : List Rg) (last : Int), rs = pre ++ l →
    loopW (fun s : List Rg × Int × Int => (law03_first_L3 s.1 s.2.1 s.2.2).run) (rs, last, (pre.length : Int)) =
      some (match chk last pre.length l with | none => .inl () | some q => .inr q)
  | [], pre, last, h => loopW_done (Post.run (Post.brF (by simp [h]) (Post.pure rfl)))
  | x :: l, pre, last, h => by
    have hlt : pre.length < rs.length := by rw [h]; simp
    have hx := idx_mid h rfl
    have hb : decide ((pre.length : Int) < (rs.length : Int)) = true := decide_eq_true (by omega)
    obtain ⟨b1, b2, _⟩ := h32 x (by rw [h]; simp)
    have w1 : IntKind.i64.wrap x.1 = x.1 := wrap64 (by omega) (by omega)
    have w2 : IntKind.i64.wrap x.2.1 = x.2.1 := wrap64 (by omega) (by omega)
    unfold chk
    by_cases h1 : x.1 < 0
    · rw [if_pos (.inl h1)]
      exact loopW_done (Post.run (Post.brT hb (Post.bnd hx (Post.brT (decide_eq_true h1) (Post.pure rfl)))))
    by_cases h2 : x.2.1 > 1114111
    · rw [if_pos (.inr (.inl h2))]
      exact loopW_done (Post.run (Post.brT hb (Post.bnd hx (Post.brF (decide_eq_false h1) (Post.bnd hx (Post.brT (decide_eq_true h2) (Post.pure rfl)))))))
    by_cases h3 : x.2.1 < x.1
    · rw [if_pos (.inr (.inr h3))]
      exact loopW_done (Post.run (Post.brT hb (Post.bnd hx (Post.brF (decide_eq_false h1) (Post.bnd hx (Post.brF (decide_eq_false h2) (Post.bnd hx (Post.bnd hx (Post.brT (decide_eq_true h3) (Post.pure rfl))))))))))
    rw [if_neg (by omega)]
    by_cases h4 : x.1 ≤ last
    · rw [if_pos h4]
      exact loopW_done (Post.run (Post.brT hb (Post.bnd hx (Post.brF (decide_eq_false h1) (Post.bnd hx (Post.brF (decide_eq_false h2) (Post.bnd hx (Post.bnd hx (Post.brF (decide_eq_false h3) (Post.bnd hx (Post.brT (decide_eq_true (by rw [w1]; exact h4)) (Post.pure rfl))))))))))))
    rw [if_neg h4]
    have ih := first_loop hl h32 l (pre ++ [x]) x.2.1 (by rw [h]; simp)
    rw [show ((pre ++ [x]).length : Int) = (pre.length : Int) + 1 by simp] at ih
    refine loopW_next (Post.run (Post.brT hb (Post.bnd hx (Post.brF (decide_eq_false h1) (Post.bnd hx (Post.brF (decide_eq_false h2) (Post.bnd hx (Post.bnd hx (Post.brF (decide_eq_false h3) (Post.bnd hx (Post.brF (decide_eq_false (by rw [w1]; exact h4)) (Post.bnd hx (Post.pure ?_))))))))))))) ih
    dsimp only
    rw [wrap64 (n := (pre.length : Int) + 1) (by omega) (by omega), w2]
theorem first_F {rs : List Rg} (hl : rs.length ≤ 9223372036854775807) (h32 : B32 rs) : law03_first_F rs = some (match chk (-1) 0 rs with | none => (-1, 0) | some q => q) := by
  have h := first_loop hl h32 rs [] (-1) rfl
  cases hc : chk (-1) 0 rs with
  | none =>
    rw [show ((([] : List Rg).length : Nat) : Int) = 0 from rfl, hc] at h
    exact Post.run (Post.altL h (Post.pure rfl))
  | some q =>
    rw [show ((([] : List Rg).length : Nat) : Int) = 0 from rfl, hc] at h
    exact Post.run (Post.altR h (Post.pure rfl))

/-! ### flat -/
theorem ofv_low : ∀ {l : List Rg} {last d r : Int}, OkR last l → r ≤ last → ofv l d r = d
  | [], _, _, _, _, _ => rfl
  | x :: l, last, d, r, h, hr => by
    unfold OkR at h
    unfold ofv
    rw [if_neg (by omega)]
    exact ofv_low h.2 (by omega)
theorem ofv_range : ∀ {l : List Rg} {d r : Int}, (∀ x ∈ l, 0 ≤ x.2.2 ∧ x.2.2 ≤ 255) → 0 ≤ d ∧ d ≤ 255 → 0 ≤ ofv l d r ∧ ofv l d r ≤ 255
  | [], _, _, _, h => h
  | x :: l, d, r, hv, h => by
    unfold ofv
    split
    · exact hv x (by simp)
    · exact ofv_range (fun y hy => hv y (by simp [hy])) h

theorem flat3 {N : Nat} (hN : N = 1114112) (rs : List Rg) (other : Int) : loopW (fun s : List Rg × Int × List Int × Int × Int => (trie_flat_L3 s.1 s.2.1 s.2.2.1 s.2.2.2.1 s.2.2.2.2).run) (rs, other, List.replicate N 0, ((List.replicate N (0 : Int)).length : Int), 0) = some (rs, tab N fun _ => other) := by
  rw [tab_rep, tab_len]
  refine count N (fun k => (rs, other, tab N (part (fun _ => other) (fun _ => 0) k), (N : Int), (k : Int))) ?_ (fun k hk => ?_) ?_
  · simp [part_zero]
  · refine Post.brT (by simpa using (by omega : (k : Int) < (N : Int))) (ptab k rfl hk (Post.pure ?_))
    dsimp only
    rw [wrapS (by omega), toNat_nat, part_set N rfl]
  · refine Post.brF (by simp) (Post.pure ?_)
    dsimp only
    rw [part_end]

def put (x : Rg) (g : Int → Int) : Int → Int := fun i => if x.1 ≤ i ∧ i ≤ x.2.1 then x.2.2 else g i
theorem flat11 {N : Nat} (hN : N = 1114112) (x : Rg) (g : Int → Int) (t21 : List Rg) (t22 t23 : Int) (h : 0 ≤ x.1 ∧ x.2.1 ≤ 1114111 ∧ x.1 ≤ x.2.1) :
    loopW (fun s : List Int × Rg × Int × List Rg × Int × Int => (trie_flat_L11 s.1 s.2.1 s.2.2.1 s.2.2.2.1 s.2.2.2.2.1 s.2.2.2.2.2).run) (tab N (fun i => g i), x, x.1, t21, t22, t23) = some (tab N (fun i => put x g i), t21, t22, t23) := by
  obtain ⟨lo, hi, v⟩ := x
  obtain ⟨h0, h1, h2⟩ := h
  dsimp only at h0 h1 h2 ⊢
  obtain ⟨a, rfl⟩ := Int.eq_ofNat_of_zero_le h0
  obtain ⟨n, rfl⟩ : ∃ n : Nat, hi = (a : Int) + n := ⟨(hi - a).toNat, by omega⟩
  refine count (n + 1) (fun k => (tab N (fun i : Nat => if (a : Int) ≤ i ∧ (i : Int) < (a : Int) + k then v else g i), ((a : Int), (a : Int) + n, v), (a : Int) + k, t21, t22, t23)) ?_ (fun k hk => ?_) ?_
  · have : tab N (fun i : Nat => g i) = tab N (fun i : Nat => if (a : Int) ≤ i ∧ (i : Int) < (a : Int) + (0 : Nat) then v else g i) := tab_congr fun i _ => by rw [if_neg (by omega)]
    rw [this]
    simp
  · refine Post.bnd rfl (Post.brT (decide_eq_true (by dsimp only; omega)) (Post.bnd rfl (ptab (a + k) (by push_cast; rfl) (by omega) (Post.pure ?_))))
    dsimp only
    rw [wrapI32 (by omega) (by omega), show ((a : Int) + k).toNat = a + k by omega, tab_set, show (a : Int) + k + 1 = (a : Int) + ((k + 1 : Nat) : Int) by omega]
    have : (tab N fun i => if i = a + k then v else if (a : Int) ≤ i ∧ (i : Int) < (a : Int) + k then v else g i) = tab N (fun i : Nat => if (a : Int) ≤ i ∧ (i : Int) < (a : Int) + ((k + 1 : Nat) : Int) then v else g i) := tab_congr fun i _ => by
      by_cases e : i = a + k
      · rw [if_pos e, if_pos (by omega)]
      · rw [if_neg e]
        by_cases e2 : (a : Int) ≤ i ∧ (i : Int) < (a : Int) + k
        · rw [if_pos e2, if_pos (by omega)]
        · rw [if_neg e2, if_neg (by omega)]
    rw [this]
  · refine Post.bnd rfl (Post.brF (decide_eq_false (by dsimp only; omega)) (Post.pure ?_))
    have : tab N (fun i : Nat => if (a : Int) ≤ i ∧ (i : Int) < (a : Int) + ((n + 1 : Nat) : Int) then v else g i) = tab N (fun i : Nat => put ((a : Int), (a : Int) + n, v) g i) := tab_congr fun i _ => by
      unfold put
      dsimp only
      by_cases e2 : (a : Int) ≤ i ∧ (i : Int) ≤ (a : Int) + n
      · rw [if_pos e2, if_pos (by omega)]
      · rw [if_neg e2, if_neg (by omega)]
    dsimp only
    rw [this]

def fl : List Rg → (Int → Int) → Int → Int
  | [], g => g
  | x :: l, g => fl l (put x g)
theorem fl_ofv : ∀ {l : List Rg} {last : Int} (g : Int → Int) {i : Int}, OkR last l → fl l g i = ofv l (g i) i
  | [], _, _, _, _ => rfl
  | x :: l, last, g, i, h => by
    unfold OkR at h
    unfold fl ofv
    rw [fl_ofv _ h.2]
    unfold put
    by_cases e : x.1 ≤ i ∧ i ≤ x.2.1
    · rw [if_pos e, if_pos e]
      exact ofv_low h.2 e.2
    · rw [if_neg e, if_neg e]
theorem flat8 {N : Nat} (hN : N = 1114112) {rs : List Rg} (hl : rs.length ≤ 9223372036854775807) : ∀ (l pre : List Rg) (last : Int) (g : Int → Int), OkR last l → rs = pre ++ l →
    loopW (fun s : List Int × List Rg × Int × Int => (trie_flat_L8 s.1 s.2.1 s.2.2.1 s.2.2.2).run) (tab N (fun i => g i), rs, (rs.length : Int), (pre.length : Int)) = some (tab N (fun i => fl l g i))
  | [], pre, last, g, _, h => loopW_done (Post.run (Post.brF (by simp [h]) (Post.pure rfl)))
  | x :: l, pre, last, g, ho, h => by
    have hlt : pre.length < rs.length := by rw [h]; simp
    have hx := idx_mid h rfl
    unfold OkR at ho
    have ih := flat8 hN hl l (pre ++ [x]) x.2.1 (put x g) ho.2 (by rw [h]; simp)
    rw [show ((pre ++ [x]).length : Int) = (pre.length : Int) + 1 by simp] at ih
    refine loopW_next (Post.run (Post.brT (decide_eq_true (by dsimp only; omega)) (Post.bnd hx (Post.bnd rfl (Post.bnd (flat11 hN x g _ _ _ ⟨ho.1.1, ho.1.2.1, ho.1.2.2.1⟩) (Post.pure ?_)))))) ih
    dsimp only
    rw [wrap64 (by omega) (by omega)]
theorem flat_aux {N : Nat} (hN : N = 1114112) {rs : List Rg} (other : Int) (hl : rs.length ≤ 9223372036854775807) (ho : OkR (-1) rs) :
    Post (.bnd (loopW (fun s : List Rg × Int × List Int × Int × Int => (trie_flat_L3 s.1 s.2.1 s.2.2.1 s.2.2.2.1 s.2.2.2.2).run) (rs, other, List.replicate N 0, ((List.replicate N (0 : Int)).length : Int), 0)) fun l_3 =>
      .bnd (loopW (fun s : List Int × List Rg × Int × Int => (trie_flat_L8 s.1 s.2.1 s.2.2.1 s.2.2.2).run) (l_3.2, l_3.1, (l_3.1.length : Int), 0)) fun l_10 => .pure l_10) (· = tab N fun i => ofv rs other i) := by
  have h8 := flat8 hN hl rs [] (-1) (fun _ => other) ho rfl
  have e : tab N (fun i : Nat => fl rs (fun _ => other) i) = tab N (fun i : Nat => ofv rs other i) := tab_congr fun i _ => fl_ofv _ ho
  rw [e] at h8
  exact Post.bnd (flat3 hN rs other) (Post.bnd h8 (Post.pure rfl))
theorem flat_F {rs : List Rg} (other : Int) (hl : rs.length ≤ 9223372036854775807) (ho : OkR (-1) rs) : trie_flat_F rs other = some (tab 1114112 fun i => ofv rs other i) := by
  have hm : mk 140737488355328 (0 : Int) 1114112 = some (List.replicate 1114112 0) := mk_eq (k := 1114112) (by omega) (by omega)
  generalize hN : (1114112 : Nat) = N at hm ⊢
  exact Post.run (Post.bnd hm (flat_aux hN.symm other hl ho))

/-! ### Build, Get, Pages -/
def al (rs : List Rg) (other : Int) : List Int := tab 1114112 fun i => ofv rs other i
theorem al_len (rs : List Rg) (other : Int) : (al rs other).length = 1114112 := tab_len _ _
theorem al_byte {rs : List Rg} {other : Int} (hv : ∀ x ∈ rs, 0 ≤ x.2.2 ∧ x.2.2 ≤ 255) (h : 0 ≤ other ∧ other ≤ 255) : ∀ n ∈ al rs other, 0 ≤ n ∧ n ≤ 255 := by
  intro n hn
  obtain ⟨i, _, rfl⟩ := List.mem_map.1 hn
  exact ofv_range hv h
theorem al_get (rs : List Rg) (other : Int) {i : Nat} (hi : i < 1114112) : (al rs other)[i]? = some (ofv rs other i) := tab_get _ hi
def tr (rs : List Rg) (other : Int) : List Int × List Int := (bls (al rs other) 8704, (pgs (al rs other) 8704).flatten)
theorem tr_one (rs : List Rg) (other : Int) : (tr rs other).1 = bls (al rs other) 8704 := rfl
theorem tr_two (rs : List Rg) (other : Int) : (tr rs other).2 = (pgs (al rs other) 8704).flatten := by simp only [tr]
theorem build_F {rs : List Rg} {other : Int} (hl : rs.length ≤ 9223372036854775807) (ho : OkR (-1) rs) (hv : ∀ x ∈ rs, 0 ≤ x.2.2 ∧ x.2.2 ≤ 255) (h : 0 ≤ other ∧ other ≤ 255) : trie_Build_F rs other = some (tr rs other, none) := by
  have h1 : trie_Check_F rs = some none := by rw [check_F hl, chk_ok.2 ho]; rfl
  unfold trie_Build_F
  rw [h1, flat_F other hl ho]
  dsimp only
  exact if_pos ⟨al_len rs other, al_byte hv h⟩
theorem get_F (rs : List Rg) (other r : Int) (h1 : -2147483648 ≤ r) (h2 : r ≤ 2147483647) : trie_Trie_Get_F (tr rs other) r = some (if 0 ≤ r ∧ r ≤ 1114111 then ofv rs other r else 0) := by
  have hw : IntKind.i64.wrap r = r := wrap64 (by omega) (by omega)
  refine Post.run (t := trie_Trie_Get_T (tr rs other) r) ?_
  refine Post.br (fun h => ?_) fun h => ?_
  · have h := of_decide_eq_true h
    rw [if_neg (by omega)]
    exact Post.pure rfl
  · have h := of_decide_eq_false h
    obtain ⟨n, rfl⟩ := Int.eq_ofNat_of_zero_le (by omega : 0 ≤ r)
    have hd : IntKind.i64.wrap ((IntKind.i64.wrap ((n : Int))).tdiv 128) = ((n / 128 : Nat) : Int) := by
      rw [hw, Int.tdiv_eq_ediv_of_nonneg (by omega), wrap64 (by omega) (by omega)]; omega
    have hbl : (tr rs other).1.length = 8704 := bls_len 8704
    refine Post.br (fun h => ?_) fun h => ?_
    · have h := of_decide_eq_true h
      rw [hd, hbl] at h
      rw [if_neg (by omega)]
      exact Post.pure rfl
    · have h := of_decide_eq_false h
      rw [hd, hbl] at h
      have hn : n < 1114112 := by omega
      obtain ⟨i, k1, k2, k3⟩ := page_get (all := al rs other) (n := 8704) (by have := al_len rs other; omega) (r := n) (by rw [al_len]; exact hn)
      rw [al_get rs other hn] at k3
      rw [if_pos (by omega)]
      have e1 : idx (tr rs other).1 (IntKind.i64.wrap ((IntKind.i64.wrap ((n : Int))).tdiv 128)) = some (i : Int) := by
        rw [hd, tr_one]
        unfold idx
        rw [if_pos (by omega), toNat_nat]
        exact k1
      have e2 : IntKind.i64.wrap (IntKind.i64.wrap ((i : Int) * 128) + (IntKind.i64.wrap (n : Int)).tmod 128) = ((i * 128 + n % 128 : Nat) : Int) := by
        rw [hw, Int.tmod_eq_emod_of_nonneg (by omega), wrap64 (n := (i : Int) * 128) (by omega) (by omega), wrap64 (by omega) (by omega)]; omega
      refine Post.bnd e1 (Post.bnd (b := ofv rs other n) ?_ (Post.pure rfl))
      rw [e2, tr_two]
      unfold idx
      rw [if_pos (by omega), toNat_nat]
      exact k3
theorem pages_F (rs : List Rg) (other : Int) : trie_Trie_Pages_F (tr rs other) = some ((pgs (al rs other) 8704).length : Int) := by
  have h : (tr rs other).2.length = 128 * (pgs (al rs other) 8704).length := (congrArg List.length (tr_two rs other)).trans <| pgs_flat 8704 fun q hq => by
    obtain ⟨j, hj, rfl⟩ := pgs_mem.1 hq
    have hl := al_len rs other
    simp only [pg, List.length_take, List.length_drop]
    omega
  have := pgs_len (all := al rs other) 8704
  refine Post.run (t := trie_Trie_Pages_T (tr rs other)) (Post.pure ?_)
  rw [h, Int.tdiv_eq_ediv_of_nonneg (by omega), wrap64 (by omega) (by omega)]
  omega

/-! ### pages -/
theorem pg_al (rs : List Rg) (other : Int) {k : Nat} (hk : k < 8704) : pg (al rs other) k = tab 128 fun i => ofv rs other ((128 * k + i : Nat) : Int) := by
  apply List.ext_getElem?
  intro i
  unfold pg
  rw [List.getElem?_take]
  by_cases hi : i < 128
  · rw [if_pos hi, List.getElem?_drop, al_get rs other (by omega), tab_get _ hi]
  · rw [if_neg hi, List.getElem?_eq_none (by rw [tab_len]; omega)]
theorem pgs_stay {all : List Int} {e : Nat} (he : 1 ≤ e) (h : ∀ j, e ≤ j → pg all j = pg all (e - 1)) : ∀ n, e ≤ n → pgs all n = pgs all e
  | 0, hn => by rw [show e = 0 by omega]
  | n + 1, hn => by
    by_cases e1 : e = n + 1
    · rw [e1]
    · rw [pgs_succ, if_pos, pgs_stay he h n (by omega)]
      rw [h n (by omega)]
      exact pgs_mem.2 ⟨e - 1, by omega, rfl⟩
/-- beyond the last range all pages are alike -/
theorem pages_end {rs : List Rg} {other : Int} {e : Nat} (he : 1 ≤ e) (he2 : e ≤ 8704) (hlast : ∀ x ∈ rs, x.2.1 < 128 * ((e : Int) - 1)) : ∀ n, e ≤ n → n ≤ 8704 → pgs (al rs other) n = pgs (al rs other) e := by
  have hof : ∀ r : Int, 128 * ((e : Int) - 1) ≤ r → ofv rs other r = other := by
    intro r hr
    have : ∀ l : List Rg, (∀ x ∈ l, x.2.1 < 128 * ((e : Int) - 1)) → ofv l other r = other := by
      intro l
      induction l with
      | nil => intro _; rfl
      | cons x l ih =>
        intro h
        have := h x (by simp)
        unfold ofv
        rw [if_neg (by omega)]
        exact ih fun y hy => h y (by simp [hy])
    exact this rs hlast
  have hpg : ∀ j, e - 1 ≤ j → j < 8704 → pg (al rs other) j = tab 128 fun _ => other := by
    intro j hj hj2
    rw [pg_al rs other hj2]
    exact tab_congr fun i _ => hof _ (by omega)
  intro n
  induction n with
  | zero => intro h _; rw [show e = 0 by omega]
  | succ n ih =>
    intro h1 h2
    by_cases e1 : e = n + 1
    · rw [e1]
    · rw [pgs_succ, if_pos, ih (by omega) (by omega)]
      rw [hpg n (by omega) (by omega), ← hpg (e - 1) (by omega) (by omega)]
      exact pgs_mem.2 ⟨e - 1, by omega, rfl⟩

theorem pgs_two {all : List Int} (h : pg all 0 ≠ pg all 1) : (pgs all 2).length = 2 := by
  have h1 : pgs all 1 = [pg all 0] := by simp [pgs]
  rw [show (2 : Nat) = 1 + 1 from rfl, pgs_succ, h1, if_neg (by simpa using fun e => h e.symm)]
  rfl
theorem told_none (w : ByteArray) (a : Int) : law02_Told_F none 0 w a = some true := rfl
theorem told_some {n : Int} (h : n ≠ 0) (w : ByteArray) (a : Int) : law02_Told_F (some (n, w, a)) n w a = some true := by
  refine Post.run (t := law02_Told_T (some (n, w, a)) n w a) (Post.brF (by simpa using h) (Post.bnd rfl (Post.bnd rfl (Post.brT (by simp) (Post.brT (by simp) (Post.pure ?_))))))
  simp

theorem awake_F : law03_awake_F = some true := by
  have ho : OkR (-1) [((65 : Int), (90 : Int), (1 : Int))] := by simp [OkR]
  have hb := build_F (rs := [(65, 90, 1)]) (other := 0) (by simp) ho (by simp) (by omega)
  have hp : (pgs (al [(65, 90, 1)] 0) 8704).length = 2 := by
    rw [pages_end (e := 2) (by omega) (by omega) (by simp) 8704 (by omega) (by omega)]
    refine pgs_two ?_
    rw [pg_al _ _ (by omega), pg_al _ _ (by omega)]
    decide +kernel
  refine Post.run (Post.bnd hb (Post.brF rfl (Post.bnd (check_F (by simp)) (Post.bnd (check_F (by simp)) (Post.bnd (get_F _ _ 66 (by omega) (by omega)) (Post.brT rfl (Post.bnd (get_F _ _ 91 (by omega) (by omega)) (Post.brT rfl (Post.bnd (pages_F _ _) (Post.brT ?_ (Post.bnd (b := true) ?_ (Post.brT rfl (Post.bnd (b := true) ?_ (Post.pure rfl)))))))))))))) 
  · rw [hp]; rfl
  · exact told_some (by decide) _ _
  · exact told_some (by decide) _ _
end Go.Proofs.YtemapfidlomkhaaDoor
