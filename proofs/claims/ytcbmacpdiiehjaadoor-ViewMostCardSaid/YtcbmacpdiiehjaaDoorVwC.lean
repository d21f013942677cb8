/-
  What view.Row keeps at each round: the row that it makes, its cells' texts, the one text that still grows.
-/
import Derived.Test.YtcbmacpdiiehjaaDoorEvErr
import Derived.OwnWalk
import Derived.Laws.OwnMore
import Derived.Maps.AppendAt
namespace Go.Proofs.YtcbmacpdiiehjaaDoor
set_option linter.all false
open Go.RowKit

abbrev Cl := List Int × Int × Int
@[reducible] def cT : Ty := .st (.pair (.sl (.int .i32)) (.pair (.int .i64) (.int .i64)))
def putR (row : List Cl) (at_ w item : Int) : List Cl × Int :=
  if at_ < 0 ∨ (row.length : Int) - w < at_ then (row, row.length)
  else if w = 1 then (row.set at_.toNat ([], item, 0), at_)
  else ((row.set at_.toNat ([], item, 0)).set (at_.toNat + 1) ([], item, 1), at_)
def addR (row : List Cl) (last : Int) (g : Int) : List Cl :=
  match row[last.toNat]? with | some x => row.set last.toNat (x.1 ++ [g], x.2) | none => row
def two (w : Int) : Int := if 2 < w then 2 else w
def stepR (n : Nat) (fr : Int) (s : List Cl × Int × Int) (k : Nat) (g w : Int) : List Cl × Int × Int :=
  if 0 < two w then
    (if (putR s.1 (s.2.1 - fr) (two w) k).2 < n then addR (putR s.1 (s.2.1 - fr) (two w) k).1 (putR s.1 (s.2.1 - fr) (two w) k).2 g else (putR s.1 (s.2.1 - fr) (two w) k).1, s.2.1 + two w, (putR s.1 (s.2.1 - fr) (two w) k).2)
  else (if s.2.2 < n then addR s.1 s.2.2 g else s.1, s.2.1, s.2.2)
def rowSt (n : Nat) (fr : Int) (gs ws : List Int) : Nat → List Cl × Int × Int
  | 0 => (List.replicate n ([32], -1, 0), 0, n)
  | k + 1 => stepR n fr (rowSt n fr gs ws k) k (gs.getD k 0) (ws.getD k 0)

theorem putR_len (row : List Cl) (a w i : Int) : (putR row a w i).1.length = row.length := by
  unfold putR; split
  · rfl
  · split <;> simp
theorem addR_len (row : List Cl) (l g : Int) : (addR row l g).length = row.length := by
  unfold addR; split <;> simp
theorem two_le (w : Int) : two w ≤ 2 := by unfold two; split <;> omega
theorem putR_last (row : List Cl) (a w i : Int) : 0 ≤ (putR row a w i).2 ∧ ((putR row a w i).2 ≤ row.length ∨ w ≤ 0) := by
  unfold putR; split
  · exact ⟨Int.natCast_nonneg _, .inl (Int.le_refl _)⟩
  · rename_i h
    split <;> (dsimp only; omega)
theorem rowSt_inv (n : Nat) (fr : Int) (gs ws : List Int) (k : Nat) : (rowSt n fr gs ws k).1.length = n ∧ 0 ≤ (rowSt n fr gs ws k).2.1 ∧ (rowSt n fr gs ws k).2.1 ≤ 2 * k ∧ 0 ≤ (rowSt n fr gs ws k).2.2 ∧ (rowSt n fr gs ws k).2.2 ≤ n := by
  induction k with
  | zero => simp [rowSt]
  | succ k ih =>
    obtain ⟨h1, h2, h3, h4, h5⟩ := ih
    have ht := two_le (ws.getD k 0)
    unfold rowSt stepR
    generalize rowSt n fr gs ws k = s at *
    split
    · rename_i hw
      have hp := putR_last s.1 (s.2.1 - fr) (two (ws.getD k 0)) k
      have hl := putR_len s.1 (s.2.1 - fr) (two (ws.getD k 0)) k
      refine ⟨?_, by dsimp only; omega, by dsimp only; omega, hp.1, by dsimp only; omega⟩
      dsimp only
      split
      · rw [addR_len, hl, h1]
      · rw [hl, h1]
    · refine ⟨?_, by dsimp only; omega, by dsimp only; omega, h4, h5⟩
      dsimp only
      split
      · rw [addR_len, h1]
      · exact h1

theorem putR_txt {row : List Cl} {a w i : Int} {m : Nat} (h : ∀ (j : Nat) (x : Cl), row[j]? = some x → x.1.length ≤ m) : ∀ (j : Nat) (x : Cl), (putR row a w i).1[j]? = some x → x.1.length ≤ m := by
  intro j x hj
  unfold putR at hj
  have one : ∀ {r : List Cl} {q : Nat} {p : Int}, (∀ (j : Nat) (x : Cl), r[j]? = some x → x.1.length ≤ m) → ∀ (j : Nat) (x : Cl), (r.set q ([], i, p))[j]? = some x → x.1.length ≤ m := by
    intro r q p hr j x hj
    rw [List.getElem?_set] at hj
    split at hj
    · split at hj
      · cases hj; exact Nat.zero_le _
      · cases hj
    · exact hr j x hj
  split at hj
  · exact h j x hj
  · split at hj
    · exact one h j x hj
    · exact one (one h) j x hj
theorem addR_txt {row : List Cl} {l g : Int} {m : Nat} (h : ∀ (j : Nat) (x : Cl), row[j]? = some x → x.1.length ≤ m) : ∀ (j : Nat) (x : Cl), (addR row l g)[j]? = some x → x.1.length ≤ m + 1 := by
  intro j x hj
  unfold addR at hj
  split at hj
  · rename_i y hy
    rw [List.getElem?_set] at hj
    split at hj
    · split at hj
      · cases hj
        have := h _ _ hy
        simp only [List.length_append, List.length_cons, List.length_nil]
        omega
      · cases hj
    · exact Nat.le_succ_of_le (h j x hj)
  · exact Nat.le_succ_of_le (h j x hj)
theorem rowSt_txt (n : Nat) (fr : Int) (gs ws : List Int) (k : Nat) : ∀ (j : Nat) (x : Cl), (rowSt n fr gs ws k).1[j]? = some x → x.1.length ≤ k + 1 := by
  induction k with
  | zero =>
    intro j x hj
    simp only [rowSt, List.getElem?_replicate] at hj
    split at hj
    · cases hj; simp
    · cases hj
  | succ k ih =>
    unfold rowSt stepR
    generalize rowSt n fr gs ws k = s at *
    have h1 := putR_txt (a := s.2.1 - fr) (w := two (ws.getD k 0)) (i := k) ih
    split
    · dsimp only
      split
      · exact addR_txt h1
      · exact fun j x hj => Nat.le_succ_of_le (h1 j x hj)
    · dsimp only
      split
      · exact addR_txt ih
      · exact fun j x hj => Nat.le_succ_of_le (ih j x hj)

/-- what is kept: of the row, of the texts, of the one that still grows -/
structure JR (B : Nat) (w0 w : World) (rv : Value) (n : Nat) (xs : List Cl) (last : Int) (tv : Value) : Prop where
  below : Below B w0 w
  base : B ≤ w.heap.size
  len : xs.length = n
  tb : ∀ b, tv.ownBlock = some b → B ≤ b ∧ rv.ownBlock ≠ some b
  cs : ∃ cs, w.ownsRow B 39 3 rv n cs ∧ ∀ (j : Nat) (x : Cl), xs[j]? = some x → ∃ t : Value, cs[j * 3]? = some t ∧ cs[j * 3 + 1]? = some (.int .i64 x.2.1) ∧ cs[j * 3 + 2]? = some (.int .i64 x.2.2) ∧
    ((j : Int) = last → t = tv ∧ w.ownsRow B 21 1 tv x.1.length (x.1.map (Value.int .i32))) ∧
    ((j : Int) ≠ last → RdV w (fun b => b < B ∨ rv.ownBlock = some b ∨ tv.ownBlock = some b) (.sl (.int .i32)) x.1 t)

/-- a text of the call's own reads -/
theorem text_rd {w : World} {B : Nat} {v : Value} {xs : List Int} (h : w.ownsRow B 21 1 v xs.length (xs.map (Value.int .i32))) {S : Nat → Prop} (hS : ∀ b, v.ownBlock = some b → ¬ S b) : RdV w S (.sl (.int .i32)) xs v := by
  have hcells := @World.ownsRow.cells _ _ _ _ _ _ _ h
  have hlt := h.lt
  rcases h.2 with ⟨rfl, hn⟩ | ⟨g, cap, cur, rfl, hbg, hblk, hnc, _, _, _⟩
  · have : xs = [] := List.eq_nil_of_length_eq_zero hn
    subst this
    exact nil_val
  · refine ⟨[.slice (some ⟨g, 0, none⟩) xs.length cap], ?_, rfl⟩
    unfold Rd
    refine ⟨some ⟨g, 0, none⟩, cap, rfl, hnc, (fun e => by cases e), fun j x hj => ⟨⟨g, 0, none⟩, rfl, hS g rfl, (hlt g rfl).2, [.int .i32 x], by unfold Rd; rfl, fun i u hi => ?_⟩⟩
    cases i with
    | succ i => simp at hi
    | zero =>
      cases hi
      have := hcells (g := g) rfl j (.int .i32 x) (by rw [List.getElem?_map, hj]; rfl)
      rw [show (Ty.int IntKind.i32).size = 1 from rfl, Nat.mul_one, Nat.add_zero]
      exact this

/-- the text no longer grows -/
theorem JR.freeze {B : Nat} {w0 w : World} {rv tv : Value} {n : Nat} {xs : List Cl} {last : Int} (h : JR B w0 w rv n xs last tv) : JR B w0 w rv n xs n (.slice none 0 0) := by
  refine ⟨h.below, h.base, h.len, fun b hb => by simp [Value.ownBlock] at hb, ?_⟩
  obtain ⟨cs, h1, h2⟩ := h.cs
  refine ⟨cs, h1, fun j x hj => ?_⟩
  obtain ⟨t, k1, k2, k3, k4, k5⟩ := h2 j x hj
  have hjn : j < n := by rw [← h.len]; exact (List.getElem?_eq_some_iff.1 hj).1
  refine ⟨t, k1, k2, k3, fun e => by omega, fun _ => ?_⟩
  by_cases e : (j : Int) = last
  · obtain ⟨rfl, m⟩ := k4 e
    refine text_rd m fun b hb hs => ?_
    obtain ⟨q1, q2⟩ := h.tb b hb
    rcases hs with hs | hs | hs
    · omega
    · exact q2 hs
    · simp [Value.ownBlock] at hs
  · exact (k5 e).keep (Nat.le_refl _) (fun b _ hb => by
      rcases hb with hb | hb | hb
      · exact .inl hb
      · exact .inr (.inl hb)
      · simp [Value.ownBlock] at hb) (fun _ _ _ => rfl)

theorem crow_val {w : World} {B n : Nat} {rv : Value} {cs : List Value} (h : w.ownsRow B 39 3 rv n cs) (hn : 0 < n) : ∃ rb cap, rv = .slice (some ⟨rb, 0, none⟩) n cap ∧ B ≤ rb := by
  rcases h.2 with ⟨_, e⟩ | ⟨g, cap, cur, rfl, hbg, _⟩
  · omega
  · exact ⟨g, cap, rfl, hbg⟩
theorem crow_len {w : World} {B n : Nat} {rv : Value} {cs : List Value} (h : w.ownsRow B 39 3 rv n cs) : ∃ A cap, rv = .slice A n cap := by
  rcases h.2 with ⟨rfl, rfl⟩ | ⟨g, cap, cur, rfl, hbg, _⟩
  · exact ⟨_, _, rfl⟩
  · exact ⟨_, _, rfl⟩

/-- a cell of the row is laid anew -/
theorem JR.lay {B : Nat} {w0 w : World} {tv : Value} {rb n cap : Nat} {xs : List Cl} {last : Int} (h : JR B w0 w (.slice (some ⟨rb, 0, none⟩) n cap) n xs last tv) (k : Nat) (hk : k < n) (item p : Int) (last' : Int) (tv' : Value)
    (hl : ((k : Int) ≠ last ∧ last' = last ∧ tv' = tv) ∨ ((k : Int) = last' ∧ last = n ∧ tv' = .slice none 0 0)) :
    JR B w0 (((w.setCell ⟨rb, k * 3, none⟩ (.slice none 0 0)).setCell ⟨rb, k * 3 + 1, none⟩ (.int .i64 item)).setCell ⟨rb, k * 3 + 2, none⟩ (.int .i64 p)) (.slice (some ⟨rb, 0, none⟩) n cap) n (xs.set k ([], item, p)) last' tv' := by
  obtain ⟨cs, h1, h2⟩ := h.cs
  obtain ⟨a1, g1⟩ := h1.stored (k * 3) (.slice none 0 0)
  obtain ⟨a2, g2⟩ := a1.stored (k * 3 + 1) (.int .i64 item)
  obtain ⟨a3, g3⟩ := a2.stored (k * 3 + 2) (.int .i64 p)
  have hg := (g1.trans g2).trans g3
  have hrb := (h1.lt rb rfl).1
  have hcl : cs.length = n * 3 := h1.1
  refine ⟨h.below.grown hg h.base (fun k e => by cases e; exact hrb), Nat.le_trans h.base hg.size, by rw [List.length_set, h.len], ?_, _, a3, fun j x hj => ?_⟩
  · rcases hl with ⟨_, _, rfl⟩ | ⟨_, _, rfl⟩
    · exact h.tb
    · intro b hb; simp [Value.ownBlock] at hb
  · by_cases e : j = k
    · subst e
      rw [List.getElem?_set_self (by rw [h.len]; exact hk)] at hj
      cases hj
      refine ⟨.slice none 0 0, ?_, ?_, ?_, fun e => ?_, fun _ => nil_val⟩
      · rw [List.getElem?_set_ne (by omega), List.getElem?_set_ne (by omega), List.getElem?_set_self (by omega)]
      · rw [List.getElem?_set_ne (by omega), List.getElem?_set_self (by simp; omega)]
      · rw [List.getElem?_set_self (by simp; omega)]
      · rcases hl with ⟨e1, rfl, _⟩ | ⟨_, _, rfl⟩
        · exact absurd e e1
        · exact ⟨rfl, World.ownsRow_nil _ _ _ _⟩
    · rw [List.getElem?_set_ne (fun h => e h.symm)] at hj
      obtain ⟨t, k1, k2, k3, k4, k5⟩ := h2 j x hj
      have hjn : j < n := by rw [← h.len]; exact (List.getElem?_eq_some_iff.1 hj).1
      refine ⟨t, ?_, ?_, ?_, fun ej => ?_, fun ej => ?_⟩
      · rw [List.getElem?_set_ne (by omega), List.getElem?_set_ne (by omega), List.getElem?_set_ne (by omega)]; exact k1
      · rw [List.getElem?_set_ne (by omega), List.getElem?_set_ne (by omega), List.getElem?_set_ne (by omega)]; exact k2
      · rw [List.getElem?_set_ne (by omega), List.getElem?_set_ne (by omega), List.getElem?_set_ne (by omega)]; exact k3
      · rcases hl with ⟨e1, rfl, rfl⟩ | ⟨e1, _, _⟩
        · obtain ⟨q1, q2⟩ := k4 ej
          refine ⟨q1, q2.kept hg ?_⟩
          cases ho : tv'.ownBlock with
          | none => exact .inl rfl
          | some b => exact .inr fun e2 => (h.tb b ho).2 e2.symm
        · omega
      · have old : RdV w (fun b => b < B ∨ (Value.slice (some ⟨rb, 0, none⟩) n cap).ownBlock = some b ∨ tv.ownBlock = some b) (.sl (.int .i32)) x.1 t := by
          rcases hl with ⟨e1, rfl, rfl⟩ | ⟨e1, rfl, _⟩
          · exact k5 ej
          · exact k5 (by omega)
        refine old.keep hg.size (fun b _ hb => ?_) (fun b hb hs => hg.block b hb fun e2 => hs (.inr (.inl (by rw [Value.ownBlock]; exact e2.symm))))
        rcases hb with hb | hb | hb
        · exact .inl hb
        · exact .inr (.inl hb)
        · rcases hl with ⟨_, _, rfl⟩ | ⟨_, _, rfl⟩
          · exact .inr (.inr hb)
          · simp [Value.ownBlock] at hb

/-- a glyph behind the text that still grows -/
theorem JR.grow {B : Nat} {w0 w w2 : World} {tv v' : Value} {rb n cap : Nat} {xs : List Cl} {l : Nat} (h : JR B w0 w (.slice (some ⟨rb, 0, none⟩) n cap) n xs l tv) (hl : l < n) (o : Go.Obj) {x : Cl} (hx : xs[l]? = some x) (g : Int)
    (hown : w2.ownsRow B 21 1 v' (x.1.length + 1) (x.1.map (Value.int .i32) ++ [.int .i32 g])) (hg : (w.alloc o).grownBy w2 tv.ownBlock) (hv : v'.ownBlock = tv.ownBlock ∨ v'.ownBlock = some (w.heap.size + 1)) :
    JR B w0 (w2.setCell ⟨rb, l * 3, none⟩ v') (.slice (some ⟨rb, 0, none⟩) n cap) n (addR xs l g) l v' := by
  obtain ⟨cs, h1, h2⟩ := h.cs
  have hrb := (h1.lt rb rfl)
  have hsz : (w.alloc o).heap.size = w.heap.size + 1 := by simp
  have hg0 : w.grownBy w2 tv.ownBlock := (World.grownBy_alloc w o _).trans hg
  have hrt : (Value.slice (some ⟨rb, 0, none⟩) n cap).ownBlock = none ∨ (Value.slice (some ⟨rb, 0, none⟩) n cap).ownBlock ≠ tv.ownBlock := .inr fun e => by
    have := (h.tb rb (by rw [← e]; rfl)).2
    exact this rfl
  have a1 := h1.kept hg0 hrt
  obtain ⟨a2, g2⟩ := a1.stored (l * 3) v'
  have hcl : cs.length = n * 3 := h1.1
  have hb1 : Below B w0 w2 := h.below.grown hg0 h.base (fun k e => (h.tb k e.symm.symm).1)
  have hbs : B ≤ w2.heap.size := Nat.le_trans h.base hg0.size
  have hvb : ∀ b, v'.ownBlock = some b → B ≤ b ∧ rb ≠ b := by
    intro b hb
    rcases hv with e | e
    · obtain ⟨q1, q2⟩ := h.tb b (by rw [← e]; exact hb)
      exact ⟨q1, fun e2 => q2 (by rw [e2]; rfl)⟩
    · rw [e] at hb
      cases hb
      have := h.base
      constructor <;> omega
  have hadd : addR xs l g = xs.set l (x.1 ++ [g], x.2) := by
    unfold addR
    rw [Int.toNat_natCast, hx]
  refine ⟨hb1.grown g2 hbs (fun k e => by cases e; exact hrb.1), Nat.le_trans hbs g2.size, by rw [addR_len, h.len], fun b hb => ⟨(hvb b hb).1, fun e => (hvb b hb).2 (by cases e; rfl)⟩, _, a2, fun j y hj => ?_⟩
  rw [hadd] at hj
  by_cases e : j = l
  · subst e
    rw [List.getElem?_set_self (by rw [h.len]; exact hl)] at hj
    cases hj
    obtain ⟨t, k1, k2, k3, k4, k5⟩ := h2 j x hx
    refine ⟨v', ?_, ?_, ?_, fun _ => ⟨rfl, ?_⟩, fun e => absurd rfl e⟩
    · rw [List.getElem?_set_self (by omega)]
    · rw [List.getElem?_set_ne (by omega)]; exact k2
    · rw [List.getElem?_set_ne (by omega)]; exact k3
    · have := hown.kept g2 (by
        cases ho : v'.ownBlock with
        | none => exact .inl rfl
        | some b => exact .inr fun e2 => (hvb b ho).2 (by cases e2; rfl))
      simpa using this
  · rw [List.getElem?_set_ne (fun h => e h.symm)] at hj
    obtain ⟨t, k1, k2, k3, k4, k5⟩ := h2 j y hj
    refine ⟨t, ?_, ?_, ?_, fun ej => absurd (Int.ofNat.inj ej) e, fun _ => ?_⟩
    · rw [List.getElem?_set_ne (by omega)]; exact k1
    · rw [List.getElem?_set_ne (by omega)]; exact k2
    · rw [List.getElem?_set_ne (by omega)]; exact k3
    · have old := k5 (fun h => e (Int.ofNat.inj h))
      refine old.keep (Nat.le_trans hg0.size g2.size) (fun b hb hs => ?_) (fun b hb hs => ?_)
      · rcases hs with hs | hs | hs
        · exact .inl hs
        · exact .inr (.inl hs)
        · rcases hv with e2 | e2
          · exact .inr (.inr (by rw [← e2]; exact hs))
          · rw [e2] at hs; cases hs; omega
      · rw [g2.block b (Nat.lt_of_lt_of_le hb hg0.size) (fun e2 => hs (.inr (.inl (by rw [Value.ownBlock]; exact e2.symm))))]
        exact hg0.block b hb (fun e2 => hs (.inr (.inr e2.symm)))

/-- the row as it is made -/
theorem JR.start {w w1 : World} {n : Nat} {v : Value} {xs : List Cl} (hn : xs.length = n) (hb : Below w.heap.size w w1) (hr : RetRd w.heap.size w1 [.row 39 cT] xs v) : JR w.heap.size w w1 v n xs n (.slice none 0 0) := by
  obtain ⟨vs, hv, _, u, hu, ho, hnew⟩ := hr
  subst hu
  have hv : v = u := hv
  subst hv
  obtain ⟨cs, h1, h2⟩ := ho
  dsimp only at h1 h2
  rw [hn] at h1
  have h1' : w1.ownsRow w.heap.size 39 3 v n cs := by
    refine ⟨h1.1, ?_⟩
    rcases h1.2 with h | ⟨g, cap, cur, rfl, _, r⟩
    · exact .inl h
    · exact .inr ⟨g, cap, cur, rfl, hnew g rfl, r⟩
  refine ⟨hb, hb.size, hn, fun b hb => by simp [Value.ownBlock] at hb, cs, h1', fun j x hj => ?_⟩
  obtain ⟨us, k1, k2⟩ := h2 j x hj
  have k1 : Rd w1 _ (.pair (.sl (.int .i32)) (.pair (.int .i64) (.int .i64))) x us := k1
  unfold Rd at k1
  obtain ⟨c1, c2, rfl, m1, m2⟩ := k1
  unfold Rd at m2
  obtain ⟨d1, d2, rfl, p1, p2⟩ := m2
  unfold Rd at p1 p2
  subst p1 p2
  have m0 := m1
  unfold Rd at m1
  obtain ⟨A, cap, rfl, _⟩ := m1
  have hjn : j < n := by rw [← hn]; exact (List.getElem?_eq_some_iff.1 hj).1
  refine ⟨.slice A x.1.length cap, ?_, ?_, ?_, fun e => by omega, fun _ => ?_⟩
  · simpa [cT, Ty.size] using k2 0 _ rfl
  · simpa [cT, Ty.size] using k2 1 _ rfl
  · simpa [cT, Ty.size] using k2 2 _ rfl
  · have hR : RdV w1 _ (.sl (.int .i32)) x.1 (.slice A x.1.length cap) := ⟨_, m0, rfl⟩
    refine hR.keep (Nat.le_refl _) (fun b _ hs => ?_) (fun _ _ _ => rfl)
    rcases hs with hs | hs | hs
    · exact .inr ⟨rfl, hs⟩
    · refine .inl ?_
      simp [rowBlocks, hs]
    · simp [Value.ownBlock] at hs

/-- the row as it is given back -/
theorem JR.fin {w w1 : World} {n : Nat} {v tv : Value} {xs : List Cl} {last : Int} {tf te : Nat} (h : JR w.heap.size w w1 v n xs last tv) : RetRd w.heap.size w1 [.row 39 cT, .v (.err tf te)] (xs, none) (.tuple #[v, .nilIface]) := by
  have h := h.freeze
  obtain ⟨cs, h1, h2⟩ := h.cs
  refine ⟨[v, .nilIface], rfl, ?_, v, [.nilIface], rfl, ⟨⟨cs, ?_, fun j x hj => ?_⟩, fun b hb => (h1.lt b hb).1⟩, .nilIface, rfl, nili_val⟩
  · simp only [rowBlocks, List.append_nil]
    split <;> simp
  · dsimp only
    rw [h.len]
    exact ⟨h1.1, h1.2.imp id fun ⟨g, cap, cur, e, _, r⟩ => ⟨g, cap, cur, e, Nat.zero_le _, r⟩⟩
  · obtain ⟨t, k1, k2, k3, k4, k5⟩ := h2 j x hj
    have hjn : j < n := by rw [← h.len]; exact (List.getElem?_eq_some_iff.1 hj).1
    have k5 := (k5 (by omega)).keep (w' := w1) (S' := Av (· ∈ rowBlocks [.row 39 cT, .v (.err tf te)] [v, .nilIface]) w.heap.size true) (Nat.le_refl _) (fun b _ hs => by
      rcases hs with hs | ⟨_, hs⟩
      · refine .inr (.inl ?_)
        simp only [rowBlocks, List.append_nil] at hs
        split at hs
        · rename_i b' hb'
          rw [List.mem_singleton] at hs
          rw [hs]; exact hb'
        · cases hs
      · exact .inl hs) (fun _ _ _ => rfl)
    obtain ⟨us, q1, q2⟩ := k5
    have q1' := q1
    unfold Rd at q1'
    obtain ⟨A, cap, rfl, _⟩ := q1'
    have q2 : t = .slice A x.1.length cap := q2
    subst q2
    refine ⟨[.slice A x.1.length cap, .int .i64 x.2.1, .int .i64 x.2.2], ?_, fun i u hu => ?_⟩
    · show Rd w1 _ (.pair (.sl (.int .i32)) (.pair (.int .i64) (.int .i64))) x _
      unfold Rd
      refine ⟨[.slice A x.1.length cap], [.int .i64 x.2.1, .int .i64 x.2.2], rfl, q1, ?_⟩
      unfold Rd
      exact ⟨[.int .i64 x.2.1], [.int .i64 x.2.2], rfl, by unfold Rd; rfl, by unfold Rd; rfl⟩
    · have e3 : cT.size = 3 := rfl
      match i, hu with
      | 0, hu => cases hu; simpa [e3] using k1
      | 1, hu => cases hu; simpa [e3] using k2
      | 2, hu => cases hu; simpa [e3] using k3
      | i + 3, hu => simp at hu

end Go.Proofs.YtcbmacpdiiehjaaDoor
