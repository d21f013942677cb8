/-
  Plain facts about the readings: loops by an invariant and a measure, wrapped numbers, list operations with a limit.
-/
import Derived.Test.YtnldcpanpojeiaaGreatDoorEvFrame
namespace Go.Proofs.YtnldcpanpojeiaaGreatDoor
theorem zA : type_of% @Bool.or_eq_true := @Bool.or_eq_true
theorem zB : type_of% @Bool.and_eq_true := @Bool.and_eq_true
theorem zC : type_of% @beq_iff_eq := @beq_iff_eq
theorem zD : type_of% @bne_iff_ne := @bne_iff_ne
theorem zE : type_of% @decide_eq_true_eq := @decide_eq_true_eq
theorem zF : type_of% @ne_eq := @ne_eq
theorem zG : type_of% @Bool.not_eq_true' := @Bool.not_eq_true'
theorem zH : type_of% @beq_eq_false_iff_ne := @beq_eq_false_iff_ne
theorem zI : type_of% @bne_eq_false_iff_eq := @bne_eq_false_iff_eq
theorem zJ : type_of% @decide_eq_false_iff_not := @decide_eq_false_iff_not
theorem zK : type_of% @Decidable.not_not := @Decidable.not_not
theorem zL : type_of% @Bool.or_eq_false_iff := @Bool.or_eq_false_iff
theorem zM : type_of% @Bool.and_eq_false_iff := @Bool.and_eq_false_iff
theorem zN : type_of% @Bool.not_eq_false' := @Bool.not_eq_false'
theorem Tr.run_pure {α : Type} (a : α) : (Tr.pure a).run = some a := rfl
theorem Tr.run_fail {α : Type} : (Tr.fail : Tr α).run = none := rfl
theorem Tr.run_br {α : Type} (c : Bool) (t e : Tr α) : (Tr.br c t e).run = if c = true then t.run else e.run := by cases c <;> rfl
theorem Tr.run_bnd {α β : Type} (o : Option β) (k : β → Tr α) : (Tr.bnd o k).run = o.bind fun b => (k b).run := by cases o <;> rfl
theorem Tr.run_bnd_some {α β : Type} {o : Option β} {b : β} (h : o = some b) (k : β → Tr α) : (Tr.bnd o k).run = (k b).run := by subst h; rfl
theorem Tr.run_bnd' {α β : Type} (b : β) (k : β → Tr α) : (Tr.bnd (some b) k).run = (k b).run := rfl
theorem Tr.run_alt_inl {α β γ : Type} {o : Option (Sum β γ)} {b : β} (h : o = some (.inl b)) (k : β → Tr α) (j : γ → Tr α) : (Tr.alt o k j).run = (k b).run := by subst h; rfl
theorem Tr.run_alt_inr {α β γ : Type} {o : Option (Sum β γ)} {c : γ} (h : o = some (.inr c)) (k : β → Tr α) (j : γ → Tr α) : (Tr.alt o k j).run = (j c).run := by subst h; rfl
theorem wrap64 {n : Int} (h1 : -9223372036854775808 ≤ n) (h2 : n ≤ 9223372036854775807) : IntKind.i64.wrap n = n := by
  simp only [IntKind.wrap, IntKind.signed, IntKind.bits]
  simp
  omega
theorem wrapU8 {n : Int} (h1 : 0 ≤ n) (h2 : n ≤ 255) : IntKind.u8.wrap n = n := by
  simp only [IntKind.wrap, IntKind.signed, IntKind.bits]
  simp
  omega
theorem wf_u8 {n : Int} (h : (Lit.int .u8 n).wf = true) : 0 ≤ n ∧ n ≤ 255 := by
  simpa [Lit.wf, IntKind.min, IntKind.max, IntKind.signed, IntKind.bits] using h
theorem wf_u16 {n : Int} (h : (Lit.int .u16 n).wf = true) : 0 ≤ n ∧ n ≤ 65535 := by
  simpa [Lit.wf, IntKind.min, IntKind.max, IntKind.signed, IntKind.bits] using h
theorem wf_i64 {n : Int} (h : (Lit.int .i64 n).wf = true) : -9223372036854775808 ≤ n ∧ n ≤ 9223372036854775807 := by
  simpa [Lit.wf, IntKind.min, IntKind.max, IntKind.signed, IntKind.bits] using h
theorem wf_i32 {n : Int} (h : (Lit.int .i32 n).wf = true) : -2147483648 ≤ n ∧ n ≤ 2147483647 := by
  simpa [Lit.wf, IntKind.min, IntKind.max, IntKind.signed, IntKind.bits] using h
theorem idx_get {α : Type} {xs : List α} {i : Int} {k : Nat} (h : i = k) (hk : k < xs.length) : idx xs i = some xs[k] := by
  subst h
  unfold idx
  rw [if_pos (by omega)]
  simp [hk]
theorem app_eq {α : Type} {lim : Nat} {xs ys : List α} (h : xs.length + ys.length ≤ lim) : app lim xs ys = some (xs ++ ys) := if_pos h
theorem mk_eq {α : Type} {lim : Nat} {z : α} {n : Int} {k : Nat} (h : n = k) (hk : k ≤ lim) : mk lim z n = some (List.replicate k z) := by
  subst h
  unfold mk
  rw [if_pos (by omega)]
  simp
def tab {α : Type} (n : Nat) (g : Nat → α) : List α := (List.range n).map g
theorem tab_len {α : Type} (n : Nat) (g : Nat → α) : (tab n g).length = n := by simp [tab]
theorem tab_get {α : Type} {n : Nat} (g : Nat → α) {k : Nat} (hk : k < n) : (tab n g)[k]? = some (g k) := by simp [tab, hk]
theorem tab_congr {α : Type} {n : Nat} {g h : Nat → α} (e : ∀ k, k < n → g k = h k) : tab n g = tab n h :=
  List.map_congr_left fun k hk => e k (List.mem_range.1 hk)
theorem tab_zero {α : Type} (g : Nat → α) : tab 0 g = [] := rfl
theorem tab_succ {α : Type} (n : Nat) (g : Nat → α) : tab n g ++ [g n] = tab (n + 1) g := by simp [tab, List.range_succ]
theorem tab_set {α : Type} {n : Nat} (g : Nat → α) (k : Nat) (v : α) : (tab n g).set k v = tab n (fun i => if i = k then v else g i) := by
  apply List.ext_getElem?
  intro i
  rw [List.getElem?_set]
  simp only [tab_len]
  by_cases hi : i < n
  · rw [tab_get _ hi, tab_get _ hi]
    by_cases e : k = i
    · subst e; simp [hi]
    · simp [e, Ne.symm e]
  · have h1 : (tab n g)[i]? = none := by rw [List.getElem?_eq_none]; rw [tab_len]; omega
    have h2 : (tab n (fun i => if i = k then v else g i))[i]? = none := by rw [List.getElem?_eq_none]; rw [tab_len]; omega
    rw [h1, h2]
    by_cases e : k = i
    · subst e; simp [hi]
    · simp [e]
theorem tab_rep {α : Type} (n : Nat) (z : α) : List.replicate n z = tab n (fun _ => z) := by
  apply List.ext_getElem?
  intro i
  by_cases hi : i < n
  · rw [tab_get _ hi]; simp [hi]
  · rw [List.getElem?_eq_none (by simpa using hi), List.getElem?_eq_none (by rw [tab_len]; omega)]
theorem tab_self {α : Type} (d : α) (xs : List α) : xs = tab xs.length (fun i => xs.getD i d) := by
  apply List.ext_getElem?
  intro i
  by_cases hi : i < xs.length
  · rw [tab_get _ hi]; simp [List.getD, hi]
  · rw [List.getElem?_eq_none (by omega), List.getElem?_eq_none (by rw [tab_len]; omega)]
theorem idx_tab {α : Type} {n : Nat} {g : Nat → α} {i : Int} {k : Nat} (h : i = k) (hk : k < n) : idx (tab n g) i = some (g k) := by
  subst h
  unfold idx
  rw [if_pos (by omega)]
  simpa using tab_get g hk
theorem idx_getD {α : Type} {xs : List α} (d : α) {i : Int} {k : Nat} (h : i = k) (hk : k < xs.length) : idx xs i = some (xs.getD k d) := by
  rw [idx_get h hk]
  simp [List.getD, hk]
def Post {α : Type} (t : Tr α) (Q : α → Prop) : Prop := ∃ a, t.run = some a ∧ Q a
theorem Post.pure {α : Type} {a : α} {Q : α → Prop} (h : Q a) : Post (.pure a) Q := ⟨a, rfl, h⟩
theorem Post.br {α : Type} {c : Bool} {t e : Tr α} {Q : α → Prop} (h1 : c = true → Post t Q) (h2 : c = false → Post e Q) : Post (.br c t e) Q := by
  cases c
  · exact h2 rfl
  · exact h1 rfl
theorem Post.brT {α : Type} {c : Bool} {t e : Tr α} {Q : α → Prop} (h : c = true) (k : Post t Q) : Post (.br c t e) Q := by subst h; exact k
theorem Post.brF {α : Type} {c : Bool} {t e : Tr α} {Q : α → Prop} (h : c = false) (k : Post e Q) : Post (.br c t e) Q := by subst h; exact k
theorem Post.bnd {α β : Type} {o : Option β} {k : β → Tr α} {b : β} {Q : α → Prop} (h : o = some b) (hk : Post (k b) Q) : Post (.bnd o k) Q := by subst h; exact hk
theorem Post.call {α β : Type} {o : Option β} {k : β → Tr α} {R : β → Prop} {Q : α → Prop} (h : ∃ b, o = some b ∧ R b) (hk : ∀ b, R b → Post (k b) Q) : Post (.bnd o k) Q := by
  obtain ⟨b, rfl, hb⟩ := h; exact hk b hb
theorem Post.idx {α β : Type} (d : β) {xs : List β} {i : Int} (n : Nat) {k : β → Tr α} {Q : α → Prop} (h : i = n) (hn : n < xs.length) (hk : Post (k (xs.getD n d)) Q) : Post (.bnd (idx xs i) k) Q :=
  Post.bnd (idx_getD d h hn) hk
theorem Post.mono {α : Type} {t : Tr α} {Q R : α → Prop} (h : Post t Q) (hr : ∀ a, Q a → R a) : Post t R := let ⟨a, h1, h2⟩ := h; ⟨a, h1, hr a h2⟩
theorem Post.eq {α : Type} {t : Tr α} {b : α} (h : t.run = some b) : Post t (· = b) := ⟨b, h, rfl⟩
theorem Post.run {α : Type} {t : Tr α} {b : α} (h : Post t (· = b)) : t.run = some b := by obtain ⟨a, h1, rfl⟩ := h; exact h1
theorem Post.alt {α β γ : Type} {o : Option (Sum β γ)} {k : β → Tr α} {j : γ → Tr α} {R : Sum β γ → Prop} {Q : α → Prop} (h : ∃ r, o = some r ∧ R r) (hk : ∀ b, R (.inl b) → Post (k b) Q) (hj : ∀ c, R (.inr c) → Post (j c) Q) : Post (.alt o k j) Q := by
  obtain ⟨r, rfl, hr⟩ := h
  cases r with
  | inl b => exact hk b hr
  | inr c => exact hj c hr
theorem Post.altL {α β γ : Type} {o : Option (Sum β γ)} {b : β} {k : β → Tr α} {j : γ → Tr α} {Q : α → Prop} (h : o = some (.inl b)) (hk : Post (k b) Q) : Post (.alt o k j) Q := by subst h; exact hk
theorem Post.altR {α β γ : Type} {o : Option (Sum β γ)} {c : γ} {k : β → Tr α} {j : γ → Tr α} {Q : α → Prop} (h : o = some (.inr c)) (hj : Post (j c) Q) : Post (.alt o k j) Q := by subst h; exact hj
theorem getD_len {α : Type} {xs : List α} {d : α} {k : Nat} (h : xs.length ≤ k) : xs.getD k d = d := by simp [List.getD, List.getElem?_eq_none h]
theorem tab_getD {α : Type} {n : Nat} (g : Nat → α) (d : α) {k : Nat} (hk : k < n) : (tab n g).getD k d = g k := by simp [List.getD, tab_get g hk]
theorem tab_ext {α : Type} {xs : List α} {n : Nat} {g : Nat → α} (d : α) (hl : xs.length = n) (h : ∀ k, k < n → xs.getD k d = g k) : xs = tab n g := by
  subst hl
  exact (tab_self d xs).trans (tab_congr h)
theorem cut_take {α : Type} {xs : List α} {hi : Int} {n : Nat} (h : hi = n) (hn : n ≤ xs.length) : cut xs 0 hi = some (xs.take n) := by
  subst h
  unfold cut
  rw [if_pos (by omega)]
  simp
theorem cut_drop {α : Type} {xs : List α} {lo hi : Int} {m n : Nat} (h1 : lo = m) (h2 : hi = n) (hm : m ≤ n) (hn : n ≤ xs.length) : cut xs lo hi = some ((xs.take n).drop m) := by
  subst h1 h2
  unfold cut
  rw [if_pos (by omega)]
  simp
theorem take_getD {α : Type} {xs : List α} {n k : Nat} (d : α) (hk : k < n) : (xs.take n).getD k d = xs.getD k d := by simp [List.getD, List.getElem?_take, hk]
theorem map_getD {α β : Type} (f : α → β) {xs : List α} {k : Nat} (a : α) (b : β) (hk : k < xs.length) : (xs.map f).getD k b = f (xs.getD k a) := by simp [List.getD, hk]
def part {α : Type} (m g : Nat → α) (k : Nat) : Nat → α := fun i => if i < k then m i else g i
theorem part_zero {α : Type} (n : Nat) (m g : Nat → α) : tab n (part m g 0) = tab n g := rfl
theorem part_end {α : Type} (n : Nat) (m g : Nat → α) : tab n (part m g n) = tab n m := tab_congr fun k hk => if_pos hk
theorem part_at {α : Type} (m g : Nat → α) (k : Nat) : part m g k k = g k := if_neg (Nat.lt_irrefl k)
theorem part_ge {α : Type} (m g : Nat → α) {k i : Nat} (h : k ≤ i) : part m g k i = g i := if_neg (by omega)
theorem part_lt {α : Type} (m g : Nat → α) {k i : Nat} (h : i < k) : part m g k i = m i := if_pos h
theorem part_set {α : Type} (n : Nat) {m g : Nat → α} {k : Nat} {v : α} (h : m k = v) : (tab n (part m g k)).set k v = tab n (part m g (k + 1)) := by
  rw [tab_set]
  refine tab_congr fun i _ => ?_
  unfold part
  by_cases e : i = k
  · subst e; rw [if_pos rfl, if_pos (by omega), h]
  · rw [if_neg e]
    by_cases h1 : i < k
    · rw [if_pos h1, if_pos (by omega)]
    · rw [if_neg h1, if_neg (by omega)]
theorem part_keep {α : Type} (n : Nat) {m g : Nat → α} {k : Nat} (h : m k = g k) : tab n (part m g k) = tab n (part m g (k + 1)) := by
  refine tab_congr fun i _ => ?_
  unfold part
  by_cases e : i = k
  · subst e; rw [if_neg (by omega), if_pos (by omega), h]
  · by_cases h1 : i < k
    · rw [if_pos h1, if_pos (by omega)]
    · rw [if_neg h1, if_neg (by omega)]
def prev {α : Type} (z : α) (m : Nat → α) : Nat → α
  | 0 => z
  | k + 1 => m k
theorem toNat_nat (k : Nat) : Int.toNat (k : Int) = k := rfl
theorem idx_set_at {α : Type} {xs : List α} {i : Int} {v : α} (h0 : 0 ≤ i) (h : i < xs.length) : idx (xs.set (Int.toNat i) v) i = some v := by
  unfold idx
  rw [if_pos h0, List.getElem?_set, if_pos rfl, if_pos (by omega)]
theorem wrap_succ {k : Nat} (h : k ≤ 4611686018427387904) : IntKind.i64.wrap ((k : Int) + 1) = ((k + 1 : Nat) : Int) := by rw [wrap64 (by omega) (by omega)]; omega
theorem ptab {α β : Type} {n : Nat} {g : Nat → β} {i : Int} (k : Nat) {f : β → Tr α} {Q : α → Prop} (h : i = k) (hk : k < n) (hf : Post (f (g k)) Q) : Post (.bnd (idx (tab n g) i) f) Q := Post.bnd (idx_tab h hk) hf
end Go.Proofs.YtnldcpanpojeiaaGreatDoor
