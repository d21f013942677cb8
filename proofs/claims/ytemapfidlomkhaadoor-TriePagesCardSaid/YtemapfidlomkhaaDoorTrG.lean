/-
  TriePages holds.
-/
import Derived.Test.YtemapfidlomkhaaDoorTrF
namespace Go.Proofs.YtemapfidlomkhaaDoor
set_option linter.all false

/-- how many ranges at the head end ahead of a rune -/
def kp : List Rg → Int → Nat
  | [], _ => 0
  | x :: l, r => if x.2.1 < r then 1 + kp l r else 0
theorem kp_le : ∀ {l : List Rg} {r : Int}, kp l r ≤ l.length
  | [], _ => Nat.le_refl _
  | x :: l, r => by
    have := kp_le (l := l) (r := r)
    unfold kp
    simp only [List.length_cons]
    split <;> omega
theorem kp_take : ∀ {l : List Rg} {r : Int}, ∀ x ∈ l.take (kp l r), x.2.1 < r
  | [], _, x, h => by simp at h
  | y :: l, r, x, h => by
    unfold kp at h
    split at h
    · rename_i hy
      rw [Nat.add_comm, List.take_succ_cons] at h
      rcases List.mem_cons.1 h with rfl | h
      · exact hy
      · exact kp_take x h
    · simp at h
theorem kp_drop : ∀ {l : List Rg} {r : Int} {x : Rg} {s : List Rg}, l.drop (kp l r) = x :: s → r ≤ x.2.1
  | [], _, _, _, h => by simp at h
  | y :: l, r, x, s, h => by
    unfold kp at h
    split at h
    · rw [Nat.add_comm, List.drop_succ_cons] at h
      exact kp_drop h
    · rw [List.drop_zero] at h
      cases h
      omega
theorem ofv_skip : ∀ {pre suf : List Rg} {d r : Int}, (∀ x ∈ pre, x.2.1 < r) → ofv (pre ++ suf) d r = ofv suf d r
  | [], _, _, _, _ => rfl
  | x :: pre, suf, d, r, h => by
    have := h x (by simp)
    rw [List.cons_append]
    rw [show ofv (x :: (pre ++ suf)) d r = if x.1 ≤ r ∧ r ≤ x.2.1 then x.2.2 else ofv (pre ++ suf) d r from rfl, if_neg (by omega)]
    exact ofv_skip (pre := pre) fun y hy => h y (by simp [hy])
theorem okR_tail : ∀ {pre suf : List Rg} {last : Int} {x : Rg}, OkR last (pre ++ x :: suf) → OkR x.2.1 suf
  | [], _, _, _, h => h.2
  | _ :: _, _, _, _, h => okR_tail h.2
theorem okR_last : ∀ {l : List Rg} {last : Int} {x y : Rg}, OkR last (l ++ [x]) → y ∈ l ++ [x] → y.2.1 ≤ x.2.1
  | [], _, x, y, h, hy => by simp at hy; subst hy; exact Int.le_refl _
  | z :: l, last, x, y, h, hy => by
    rw [List.cons_append] at h hy
    rcases List.mem_cons.1 hy with rfl | hy
    · have h2 := h.2
      clear h hy
      have key : ∀ {l : List Rg} {last : Int}, OkR last (l ++ [x]) → last ≤ x.2.1 := by
        intro l
        induction l with
        | nil => intro last h; have := h.1; omega
        | cons w l ih => intro last h; have := ih h.2; have := h.1; omega
      exact key h2
    · exact okR_last h.2 hy

/-- where the walk over the ranges stands -/
def ks (l : List Rg) (p : Nat) : Nat → Nat
  | 0 => 0
  | i + 1 => ks l p i + kp (l.drop (ks l p i)) (128 * p + i : Nat)
theorem ks_succ (l : List Rg) (p i : Nat) : ks l p (i + 1) = ks l p i + kp (l.drop (ks l p i)) (128 * p + i : Nat) := rfl
theorem ks_le {l : List Rg} {p : Nat} : ∀ i, ks l p i ≤ l.length
  | 0 => Nat.zero_le _
  | i + 1 => by
    have h := ks_le (l := l) (p := p) i
    have := kp_le (l := l.drop (ks l p i)) (r := (128 * p + i : Nat))
    rw [List.length_drop] at this
    rw [ks_succ]
    omega
theorem ks_take {l : List Rg} {p : Nat} : ∀ i, ∀ x ∈ l.take (ks l p i), x.2.1 < 128 * (p : Int) + i
  | 0, x, h => by simp [ks] at h
  | i + 1, x, h => by
    rw [ks_succ, List.take_add] at h
    rcases List.mem_append.1 h with h | h
    · have := ks_take i x h
      omega
    · have := kp_take x h
      omega

theorem l19 {l : List Rg} (other : Int) (t : List Int × List Int) (e : Int) (pages : List ByteArray) (p i : Nat) (s : ByteArray) (h32 : B32 l) (hl : l.length ≤ 12) (hp : p ≤ 8704) (hi : i ≤ 128) : ∀ (suf pre : List Rg), l = pre ++ suf →
    loopW (fun s : Int × List Rg × (List Int × List Int) × Int × List ByteArray × Int × ByteArray × Int × Int => (law03_TriePages_L19 s.1 s.2.1 s.2.2.1 s.2.2.2.1 s.2.2.2.2.1 s.2.2.2.2.2.1 s.2.2.2.2.2.2.1 s.2.2.2.2.2.2.2.1 s.2.2.2.2.2.2.2.2).run)
      (other, l, t, e, pages, (p : Int), s, (pre.length : Int), (i : Int)) = some (other, l, t, e, pages, (p : Int), s, ((pre.length + kp suf (128 * p + i : Nat) : Nat) : Int), (i : Int))
  | [], pre, h => loopW_done (Post.run (Post.brF (by simp [h]) (Post.pure rfl)))
  | x :: suf, pre, h => by
    have hlt : pre.length < l.length := by rw [h]; simp
    have hx := idx_mid h rfl
    have hb : decide ((pre.length : Int) < (l.length : Int)) = true := decide_eq_true (by omega)
    obtain ⟨_, b2, _⟩ := h32 x (by rw [h]; simp)
    have w2 : IntKind.i64.wrap x.2.1 = x.2.1 := wrap64 (by omega) (by omega)
    have w3 : IntKind.i64.wrap (IntKind.i64.wrap (128 * (p : Int)) + (i : Int)) = ((128 * p + i : Nat) : Int) := by
      rw [wrap64 (n := 128 * (p : Int)) (by omega) (by omega), wrap64 (by omega) (by omega)]; omega
    unfold kp
    by_cases h1 : x.2.1 < ((128 * p + i : Nat) : Int)
    · rw [if_pos h1]
      have ih := l19 other t e pages p i s h32 hl hp hi suf (pre ++ [x]) (by rw [h]; simp)
      rw [show (pre ++ [x]).length = pre.length + 1 by simp, show pre.length + 1 + kp suf ((128 * p + i : Nat) : Int) = pre.length + (1 + kp suf ((128 * p + i : Nat) : Int)) by omega] at ih
      refine loopW_next (Post.run (Post.brT hb (Post.bnd hx (Post.brT (decide_eq_true (by rw [w2, w3]; exact h1)) (Post.pure ?_))))) ih
      dsimp only
      rw [wrapS (by omega)]
    · rw [if_neg h1]
      exact loopW_done (Post.run (Post.brT hb (Post.bnd hx (Post.brF (decide_eq_false (by rw [w2, w3]; exact h1)) (Post.pure rfl)))))

theorem str_snoc (q : List Int) (v : Int) : strOfNums q ++ strOfNums [v] = strOfNums (q ++ [v]) := by
  apply ByteArray.ext
  rw [ByteArray.data_append]
  apply Array.toList_inj.1
  rw [Array.toList_append, strOfNums_data, strOfNums_data, strOfNums_data]
  simp
theorem str_nil : strOfNums [] = ByteArray.mk #[] := by
  apply ByteArray.ext
  apply Array.toList_inj.1
  rw [strOfNums_data]
  rfl
def pag (l : List Rg) (other : Int) (p i : Nat) : List Int := tab i fun j => ofv l other ((128 * p + j : Nat) : Int)
theorem pag_succ (l : List Rg) (other : Int) (p i : Nat) : pag l other p (i + 1) = pag l other p i ++ [ofv l other ((128 * p + i : Nat) : Int)] := (tab_succ i _).symm
theorem l17 {l : List Rg} (other : Int) (t : List Int × List Int) (e : Int) (pages : List ByteArray) (p : Nat) (ho : OkR (-1) l) (h32 : B32 l) (hl : l.length ≤ 12) (hp : p ≤ 8704) :
    loopW (fun s : Int × List Rg × (List Int × List Int) × Int × List ByteArray × Int × ByteArray × Int × Int => (law03_TriePages_L17 s.1 s.2.1 s.2.2.1 s.2.2.2.1 s.2.2.2.2.1 s.2.2.2.2.2.1 s.2.2.2.2.2.2.1 s.2.2.2.2.2.2.2.1 s.2.2.2.2.2.2.2.2).run)
      (other, l, t, e, pages, (p : Int), ByteArray.mk #[], 0, 0) = some (other, l, t, e, pages, (p : Int), strOfNums (pag l other p 128)) := by
  refine count 128 (fun i => (other, l, t, e, pages, (p : Int), strOfNums (pag l other p i), ((ks l p i : Nat) : Int), (i : Int))) ?_ (fun i hi => ?_) ?_
  · rw [show pag l other p 0 = [] from rfl, str_nil]
    rfl
  · have hk := ks_le (l := l) (p := p) i
    have h19 := l19 other t e pages p i (strOfNums (pag l other p i)) h32 hl hp (by omega) (l.drop (ks l p i)) (l.take (ks l p i)) (List.take_append_drop _ _).symm
    rw [show (l.take (ks l p i)).length = ks l p i by rw [List.length_take]; omega, ← ks_succ] at h19
    refine Post.brT (decide_eq_true (by dsimp only; omega)) (Post.bnd h19 ?_)
    dsimp only
    have hk1 := ks_le (l := l) (p := p) (i + 1)
    have htk : ∀ x ∈ l.take (ks l p (i + 1)), x.2.1 < ((128 * p + i : Nat) : Int) := by
      intro x hx
      have := ks_take (l := l) (p := p) (i + 1) x hx
      rw [ks_succ, List.take_add] at hx
      rcases List.mem_append.1 hx with hx | hx
      · have := ks_take (l := l) (p := p) i x hx
        omega
      · exact kp_take x hx
    have hof : ofv l other ((128 * p + i : Nat) : Int) = ofv (l.drop (ks l p (i + 1))) other ((128 * p + i : Nat) : Int) := by
      conv => lhs; rw [← List.take_append_drop (ks l p (i + 1)) l]
      exact ofv_skip htk
    have w3 : IntKind.i64.wrap (IntKind.i64.wrap (128 * (p : Int)) + (i : Int)) = ((128 * p + i : Nat) : Int) := by
      rw [wrap64 (n := 128 * (p : Int)) (by omega) (by omega), wrap64 (by omega) (by omega)]; omega
    have hsz : ∀ v : Int, decide ((strOfNums (pag l other p i)).size + (strOfNums [v]).size ≤ 9223372036854775807) = true := fun v => by
      refine decide_eq_true ?_
      rw [strOfNums_size, strOfNums_size, pag, tab_len]
      simp
      omega
    have stp : ∀ v : Int, v = ofv l other ((128 * p + i : Nat) : Int) → (other, l, t, e, pages, (p : Int), strOfNums (pag l other p i) ++ strOfNums [v], ((ks l p (i + 1) : Nat) : Int), IntKind.i64.wrap ((i : Int) + 1)) = (other, l, t, e, pages, (p : Int), strOfNums (pag l other p (i + 1)), ((ks l p (i + 1) : Nat) : Int), ((i + 1 : Nat) : Int)) := fun v hv => by
      rw [str_snoc, pag_succ, hv, wrapS (by omega)]
    cases hd : l.drop (ks l p (i + 1)) with
    | nil =>
      have hlen : l.length ≤ ks l p (i + 1) := by simpa using hd
      rw [hd] at hof
      refine Post.brF (decide_eq_false (by omega)) (Post.brT (hsz other) (Post.pure ?_))
      exact congrArg Lap.next (stp other hof.symm)
    | cons x suf =>
      have hlt : ks l p (i + 1) < l.length := by
        have : (l.drop (ks l p (i + 1))).length = suf.length + 1 := by rw [hd]; rfl
        rw [List.length_drop] at this
        omega
      have hsp : l = l.take (ks l p (i + 1)) ++ x :: suf := by rw [← hd, List.take_append_drop]
      have hx : idx l ((ks l p (i + 1) : Nat) : Int) = some x := idx_mid hsp (by rw [List.length_take]; omega)
      have hr : ((128 * p + i : Nat) : Int) ≤ x.2.1 := by
        refine kp_drop (l := l.drop (ks l p i)) (s := suf) ?_
        rw [List.drop_drop, ← ks_succ]
        exact hd
      obtain ⟨b1, _, _⟩ := h32 x (by rw [hsp]; simp)
      have w1 : IntKind.i64.wrap x.1 = x.1 := wrap64 (by omega) (by omega)
      rw [hd] at hof
      refine Post.brT (decide_eq_true (by omega)) (Post.bnd hx ?_)
      by_cases h1 : x.1 ≤ ((128 * p + i : Nat) : Int)
      · refine Post.brT (decide_eq_true (by rw [w1, w3]; exact h1)) (Post.bnd hx (Post.brT (hsz x.2.2) (Post.pure ?_)))
        have : ofv (x :: suf) other ((128 * p + i : Nat) : Int) = x.2.2 := if_pos ⟨h1, hr⟩
        exact congrArg Lap.next (stp x.2.2 (by rw [hof, this]))
      · refine Post.brF (decide_eq_false (by rw [w1, w3]; exact h1)) (Post.brT (hsz other) (Post.pure ?_))
        have : ofv (x :: suf) other ((128 * p + i : Nat) : Int) = other := by
          unfold ofv
          rw [if_neg (by omega)]
          rw [hsp] at ho
          exact ofv_low (okR_tail ho) hr
        exact congrArg Lap.next (stp other (by rw [hof, this]))
  · exact Post.brF (by simp) (Post.pure rfl)

theorem l27 {l : List Rg} (other : Int) (t : List Int × List Int) (e : Int) (qs : List ByteArray) (p : Int) (s : ByteArray) (hq : qs.length ≤ 8704) :
    loopW (fun s : Int × List Rg × (List Int × List Int) × Int × List ByteArray × Int × ByteArray × Bool × Int => (law03_TriePages_L27 s.1 s.2.1 s.2.2.1 s.2.2.2.1 s.2.2.2.2.1 s.2.2.2.2.2.1 s.2.2.2.2.2.2.1 s.2.2.2.2.2.2.2.1 s.2.2.2.2.2.2.2.2).run)
      (other, l, t, e, qs, p, s, false, 0) = some (other, l, t, e, qs, p, s, qs.any fun q => q.toList == s.toList) := by
  refine count qs.length (fun j => (other, l, t, e, qs, p, s, (qs.take j).any (fun q => q.toList == s.toList), (j : Int))) rfl (fun j hj => ?_) ?_
  · have hx : idx qs (j : Int) = some qs[j] := idx_get rfl hj
    have hn : (qs.take (j + 1)).any (fun q => q.toList == s.toList) = ((qs.take j).any (fun q => q.toList == s.toList) || (qs[j].toList == s.toList)) := by
      rw [List.take_succ_eq_append_getElem hj, List.any_append]
      simp
    refine Post.brT (decide_eq_true (by dsimp only; omega)) (Post.br (fun h => Post.pure ?_) fun h => Post.bnd hx (Post.pure ?_))
    · dsimp only at h ⊢
      rw [hn, h, wrapS (by omega), Bool.true_or]
    · dsimp only at h ⊢
      rw [hn, h, wrapS (by omega), Bool.false_or]
  · refine Post.brF (by simp) (Post.pure ?_)
    dsimp only
    rw [List.take_length]

theorem str_inj {q r : List Int} (hq : Byte q) (hr : Byte r) (h : (strOfNums q).toList = (strOfNums r).toList) : q = r := by
  refine kl_inj hq hr ?_
  unfold kl
  rw [strOfNums_data, strOfNums_data]
  unfold strOfNums at h
  rw [ByteArray.toList_mk, ByteArray.toList_mk] at h
  rw [h]

theorem pages_loop {l : List Rg} {other : Int} (ho : OkR (-1) l) (h32 : B32 l) (hl : l.length ≤ 12) (hv : ∀ x ∈ l, 0 ≤ x.2.2 ∧ x.2.2 ≤ 255) (hot : 0 ≤ other ∧ other ≤ 255) (t : List Int × List Int) (e8 : Int) (E : Nat) (hE : (if e8 > 1 then e8 else 1) = (E : Int)) (hE2 : E ≤ 8704) :
    loopW (fun s : Int × List Rg × (List Int × List Int) × Int × List ByteArray × Int => (law03_TriePages_L12 s.1 s.2.1 s.2.2.1 s.2.2.2.1 s.2.2.2.2.1 s.2.2.2.2.2).run) (other, l, t, e8, [], 0) = some (t, (pgs (al l other) E).map strOfNums) := by
  refine count E (fun p => (other, l, t, e8, (pgs (al l other) p).map strOfNums, (p : Int))) rfl (fun p hp => ?_) ?_
  · have hpl := pgs_len (all := al l other) p
    have hpag : pag l other p 128 = pg (al l other) p := (pg_al l other (by omega)).symm
    have hbyte : ∀ j, j < 8704 → Byte (pg (al l other) j) := fun j hj => pg_byte (by rw [al_len]; omega) (al_byte hv hot)
    have hany : ((pgs (al l other) p).map strOfNums).any (fun q => q.toList == (strOfNums (pag l other p 128)).toList) = decide (pg (al l other) p ∈ pgs (al l other) p) := by
      rw [hpag]
      by_cases hm : pg (al l other) p ∈ pgs (al l other) p
      · rw [decide_eq_true hm]
        refine List.any_eq_true.2 ⟨_, List.mem_map.2 ⟨_, hm, rfl⟩, ?_⟩
        simp
      · rw [decide_eq_false hm]
        refine List.any_eq_false.2 fun x hx => ?_
        obtain ⟨q, hq, rfl⟩ := List.mem_map.1 hx
        intro hq2
        refine hm ?_
        obtain ⟨j, hj, rfl⟩ := pgs_mem.1 hq
        rw [← str_inj (hbyte j (by omega)) (hbyte p (by omega)) (by simpa using hq2)]
        exact hq
    have h27 := l27 (l := l) other t e8 ((pgs (al l other) p).map strOfNums) (p : Int) (strOfNums (pag l other p 128)) (by rw [List.length_map]; omega)
    rw [hany] at h27
    refine Post.brT (decide_eq_true (by dsimp only; rw [hE]; omega)) (Post.bnd (l17 other t e8 _ p ho h32 hl (by omega)) (Post.bnd h27 ?_))
    dsimp only
    by_cases hm : pg (al l other) p ∈ pgs (al l other) p
    · rw [decide_eq_true hm]
      refine Post.brF rfl (Post.pure ?_)
      rw [pgs_succ, if_pos hm, wrapS (by omega)]
    · rw [decide_eq_false hm]
      refine Post.brT rfl (Post.bnd (app_eq (by rw [List.length_map]; simp; omega)) (Post.pure ?_))
      rw [pgs_succ, if_neg hm, wrapS (by omega), List.map_append, hpag]
      rfl
  · exact Post.brF (by rw [hE]; simp) (Post.pure rfl)

theorem triePages_F (raw : List Rg) (other : Int) (h32 : B32 raw) (ho : 0 ≤ other ∧ other ≤ 255) : law03_TriePages_F raw other = some true := by
  have hml := made_len raw
  have hok := made_ok raw
  have hv := made_val h32
  have hb := build_F (rs := made raw) (other := other) (by omega) hok hv ho
  refine Post.run (Post.bnd awake_F (Post.brF rfl (Post.bnd (make_F h32) (Post.bnd hb (Post.brF rfl ?_)))))
  have m48 : ∀ y ∈ made raw, y.2.1 ≤ 48000 := fun y hy => (made_mem hy).1
  have m32 := made_32 h32
  generalize made raw = l at hml hok hv m48 m32 ⊢
  have fin : ∀ E : Nat, 1 ≤ E → E ≤ 8704 → (∀ x ∈ l, x.2.1 < 128 * ((E : Int) - 1)) → (((pgs (al l other) 8704).length : Int) == ((((pgs (al l other) E).map strOfNums).length : Nat) : Int)) = true := by
    intro E h1 h2 h3
    rw [pages_end h1 h2 h3 8704 (by omega) (by omega), List.length_map]
    simp
  refine Post.br (fun h => ?_) fun h => ?_
  · have h := of_decide_eq_true h
    obtain ⟨pre, x, hl⟩ : ∃ pre x, l = pre ++ [x] := by
      have hne : l ≠ [] := by rintro rfl; simp at h
      exact ⟨l.dropLast, l.getLast hne, (List.dropLast_concat_getLast hne).symm⟩
    have hx : idx l (IntKind.i64.wrap ((l.length : Int) - 1)) = some x := by
      rw [wrap64 (by omega) (by omega)]
      exact idx_mid (l := []) hl (by rw [hl]; simp)
    have hxm : x ∈ l := by rw [hl]; simp
    have h0 := (m32 x hxm).2.1
    have hxr : 0 ≤ x.2.1 := by
      rw [hl] at hok
      have := okR_at (pre := pre) (suf := []) hok
      omega
    have h48 := m48 x hxm
    have e8 : IntKind.i64.wrap (IntKind.i64.wrap ((IntKind.i64.wrap x.2.1).tdiv 128) + 2) = x.2.1 / 128 + 2 := by
      rw [wrap64 (n := x.2.1) (by omega) (by omega), Int.tdiv_eq_ediv_of_nonneg hxr, wrap64 (n := x.2.1 / 128) (by omega) (by omega), wrap64 (by omega) (by omega)]
    have hlp := pages_loop (l := l) (other := other) hok m32 hml hv ho (tr l other) (x.2.1 / 128 + 2) (x.2.1 / 128 + 2).toNat (by rw [if_pos (by omega)]; omega) (by omega)
    rw [← e8] at hlp
    refine Post.bnd hx (Post.bnd hlp (Post.bnd (pages_F l other) (Post.pure ?_)))
    refine fin _ (by rw [e8]; omega) (by rw [e8]; omega) fun y hy => ?_
    have : y.2.1 ≤ x.2.1 := by
      rw [hl] at hok hy
      exact okR_last hok hy
    rw [e8]
    omega
  · have h := of_decide_eq_false h
    have hl : l = [] := List.eq_nil_of_length_eq_zero (by omega)
    have hlp := pages_loop (l := l) (other := other) hok m32 hml hv ho (tr l other) 0 1 (by simp) (by omega)
    refine Post.bnd hlp (Post.bnd (pages_F l other) (Post.pure (fin 1 (by omega) (by omega) fun x hx => ?_)))
    rw [hl] at hx
    simp at hx
theorem triePages_all (x : Tys.I [.sl (.st (.pair (.int .i32) (.pair (.int .i32) (.int .u8)))), .int .u8]) (h : WfAll [.sl (.st (.pair (.int .i32) (.pair (.int .i32) (.int .u8)))), .int .u8] x) : law03_TriePages_F x.1 x.2.1 = some true :=
  triePages_F _ _ (wf_rows h.1).2 (wf_u8 h.2.1)
end Go.Proofs.YtemapfidlomkhaaDoor
