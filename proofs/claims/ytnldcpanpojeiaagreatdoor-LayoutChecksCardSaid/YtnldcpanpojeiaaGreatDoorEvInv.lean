/-
  What a plain datum says of memory: the relation between the states of the reading and the program's own; how it is kept.
-/
import Derived.Test.YtnldcpanpojeiaaGreatDoorEvDefs
namespace Go.Proofs.YtnldcpanpojeiaaGreatDoor
open Go.RowKit
theorem addr_add (b k n : Nat) : (⟨b, k, none⟩ : Addr).add n = ⟨b, k + n, none⟩ := by
  unfold Addr.add; by_cases h : n = 0 <;> simp [h]
theorem add_block (a : Addr) (n : Nat) : (a.add n).block = a.block := by unfold Addr.add; split <;> rfl
theorem add_add (a : Addr) (i j : Nat) : (a.add i).add j = a.add (i + j) := by
  unfold Addr.add
  by_cases hi : i = 0 <;> by_cases hj : j = 0 <;> simp [hi, hj, Nat.add_assoc]
theorem cell_keep {w w' : World} {ad : Addr} (n : Nat) (h : w'.heap[ad.block]? = w.heap[ad.block]?) : w'.cell? (ad.add n) = w.cell? (ad.add n) :=
  World.cell?_of_block (by rw [add_block]; exact h)
def Rd (w : World) (S : Nat → Prop) : (t : Ty) → t.I → List Value → Prop
  | .int k, n, cs => cs = [.int k n]
  | .bool, b, cs => cs = [.bool b]
  | .str, s, cs => cs = [.string s]
  | .eno te, n, cs => cs = [.iface te (.int .i64 n)]
  | .arr n e, xs, cs => xs.length = n ∧ cs.length = n * e.size ∧ ∀ j x, xs[j]? = some x → ∃ us, Rd w S e x us ∧ ∀ i u, us[i]? = some u → cs[j * e.size + i]? = some u
  | .err tf te, x, cs => match x with
    | none => cs = [.nilIface]
    | some (n, wh, at_) => ∃ ad, cs = [.iface tf (.pointer (some ad))] ∧ ¬ S ad.block ∧ ad.block < w.heap.size ∧
        w.cell? ad = some (.iface te (.int .i64 n)) ∧ w.cell? (ad.add 1) = some (.string wh) ∧ w.cell? (ad.add 2) = some (.int .i64 at_)
  | .sl e, xs, cs => ∃ A cap, cs = [.slice A xs.length cap] ∧ xs.length ≤ cap ∧ (A = none → cap = 0) ∧
      ∀ j x, xs[j]? = some x → ∃ ad, A = some ad ∧ ¬ S ad.block ∧ ad.block < w.heap.size ∧
        ∃ us, Rd w S e x us ∧ ∀ i u, us[i]? = some u → w.cell? (ad.add (j * e.size + i)) = some u
  | .st p, x, cs => Rd w S p x cs
  | .ptr p, x, cs => ∃ ad, cs = [.pointer (some ad)] ∧ ¬ S ad.block ∧ ad.block < w.heap.size ∧
      ∃ us, Rd w S p x us ∧ ∀ i u, us[i]? = some u → w.cell? (ad.add i) = some u
  | .pair a b, x, cs => ∃ c1 c2, cs = c1 ++ c2 ∧ Rd w S a x.1 c1 ∧ Rd w S b x.2 c2
  | .hole, _, cs => ∃ u : Value, cs = [u] ∧ u.oneCell' = true
  | .fn f p, x, cs => ∃ vs : List Value, cs = [.func (.func f) #[] vs.toArray] ∧ Rd w S p x vs
theorem idx_some' {α : Type} {xs : List α} {i : Int} {x : α} (h : idx xs i = some x) : 0 ≤ i ∧ xs[i.toNat]? = some x ∧ i.toNat < xs.length := by
  unfold idx at h
  split at h
  · rename_i h0
    exact ⟨h0, h, by rcases Nat.lt_or_ge i.toNat xs.length with h' | h'; exact h'; rw [List.getElem?_eq_none h'] at h; cases h⟩
  · cases h
theorem Rd.len {w : World} {S : Nat → Prop} : ∀ {t : Ty} {x : t.I} {cs : List Value}, Rd w S t x cs → cs.length = t.size
  | .int _, _, _, h => by unfold Rd at h; subst h; rfl
  | .bool, _, _, h => by unfold Rd at h; subst h; rfl
  | .str, _, _, h => by unfold Rd at h; subst h; rfl
  | .err _ _, none, _, h => by unfold Rd at h; subst h; rfl
  | .err _ _, some _, _, h => by unfold Rd at h; obtain ⟨_, rfl, _⟩ := h; rfl
  | .eno _, _, _, h => by unfold Rd at h; subst h; rfl
  | .arr _ _, _, _, h => by unfold Rd at h; exact h.2.1
  | .sl _, _, _, h => by unfold Rd at h; obtain ⟨_, _, rfl, _⟩ := h; rfl
  | .st p, x, _, h => by unfold Rd at h; exact Rd.len (t := p) h
  | .ptr _, _, _, h => by unfold Rd at h; obtain ⟨_, rfl, _⟩ := h; rfl
  | .pair a b, x, _, h => by
    unfold Rd at h; obtain ⟨c1, c2, rfl, h1, h2⟩ := h
    rw [List.length_append, Rd.len h1, Rd.len h2]; rfl
  | .hole, _, _, h => by unfold Rd at h; obtain ⟨u, rfl, _⟩ := h; rfl
  | .fn _ _, _, _, h => by unfold Rd at h; obtain ⟨u, rfl, _⟩ := h; rfl
theorem Rd.one {w : World} {S : Nat → Prop} : ∀ {t : Ty} {x : t.I} {cs : List Value}, Rd w S t x cs → ∀ u ∈ cs, u.oneCell' = true
  | .int _, _, _, h => by unfold Rd at h; subst h; simp [Value.oneCell']
  | .bool, _, _, h => by unfold Rd at h; subst h; simp [Value.oneCell']
  | .str, _, _, h => by unfold Rd at h; subst h; simp [Value.oneCell']
  | .err _ _, none, _, h => by unfold Rd at h; subst h; simp [Value.oneCell']
  | .err _ _, some _, _, h => by unfold Rd at h; obtain ⟨_, rfl, _⟩ := h; simp [Value.oneCell']
  | .eno _, _, _, h => by unfold Rd at h; subst h; simp [Value.oneCell']
  | .arr n e, xs, cs, h => by
    unfold Rd at h
    obtain ⟨h1, h2, h3⟩ := h
    intro u hu
    obtain ⟨q, hq, rfl⟩ := List.mem_iff_getElem.1 hu
    have hpos : 0 < e.size := by
      rcases Nat.eq_zero_or_pos e.size with h0 | h0
      · rw [h0, Nat.mul_zero] at h2; omega
      · exact h0
    have hj : q / e.size < xs.length := by
      rw [h1]; exact Nat.div_lt_of_lt_mul (by rw [Nat.mul_comm]; omega)
    obtain ⟨us, k1, k2⟩ := h3 (q / e.size) xs[q / e.size] (List.getElem?_eq_getElem hj)
    have hi : q % e.size < us.length := by rw [k1.len]; exact Nat.mod_lt _ hpos
    have := k2 (q % e.size) us[q % e.size] (List.getElem?_eq_getElem hi)
    rw [Nat.div_add_mod' q e.size, List.getElem?_eq_getElem hq] at this
    injection this with this
    rw [this]
    exact Rd.one k1 _ (List.getElem_mem hi)
  | .sl _, _, _, h => by unfold Rd at h; obtain ⟨_, _, rfl, _⟩ := h; simp [Value.oneCell']
  | .st p, x, _, h => by unfold Rd at h; exact Rd.one (t := p) h
  | .ptr _, _, _, h => by unfold Rd at h; obtain ⟨_, rfl, _⟩ := h; simp [Value.oneCell']
  | .pair a b, x, _, h => by
    unfold Rd at h; obtain ⟨c1, c2, rfl, h1, h2⟩ := h
    intro u hu
    rcases List.mem_append.1 hu with h | h
    · exact Rd.one h1 u h
    · exact Rd.one h2 u h
  | .hole, _, _, h => by
    unfold Rd at h; obtain ⟨u, rfl, h1⟩ := h
    intro v hv
    rw [List.mem_singleton] at hv
    rw [hv]; exact h1
  | .fn _ _, _, _, h => by unfold Rd at h; obtain ⟨_, rfl, _⟩ := h; simp [Value.oneCell']
theorem Rd.keep {w w' : World} {S S' : Nat → Prop} (hz : w.heap.size ≤ w'.heap.size) (hS : ∀ b, b < w.heap.size → S' b → S b)
    (hb : ∀ b, b < w.heap.size → ¬ S b → w'.heap[b]? = w.heap[b]?) : ∀ {t : Ty} {x : t.I} {cs : List Value}, Rd w S t x cs → Rd w' S' t x cs
  | .int _, _, _, h => by unfold Rd at h ⊢; exact h
  | .bool, _, _, h => by unfold Rd at h ⊢; exact h
  | .str, _, _, h => by unfold Rd at h ⊢; exact h
  | .eno _, _, _, h => by unfold Rd at h ⊢; exact h
  | .arr n e, xs, _, h => by
    unfold Rd at h ⊢
    refine ⟨h.1, h.2.1, fun j x hj => ?_⟩
    obtain ⟨us, hr, hu⟩ := h.2.2 j x hj
    exact ⟨us, Rd.keep hz hS hb hr, hu⟩
  | .err _ _, none, _, h => by unfold Rd at h ⊢; exact h
  | .err _ _, some _, _, h => by
    unfold Rd at h ⊢
    obtain ⟨ad, rfl, hs, hl, h0, h1, h2⟩ := h
    have hh := hb _ hl hs
    refine ⟨ad, rfl, fun h => hs (hS _ hl h), by omega, ?_, ?_, ?_⟩
    · exact (World.cell?_of_block hh).trans h0
    · exact (cell_keep 1 hh).trans h1
    · exact (cell_keep 2 hh).trans h2
  | .sl e, xs, _, h => by
    unfold Rd at h ⊢
    obtain ⟨A, cap, rfl, hc, hz, hx⟩ := h
    refine ⟨A, cap, rfl, hc, hz, fun j x hj => ?_⟩
    clear hz
    obtain ⟨ad, rfl, hs, hl, us, hr, hu⟩ := hx j x hj
    have hh := hb _ hl hs
    exact ⟨ad, rfl, fun h => hs (hS _ hl h), by omega, us, Rd.keep hz hS hb hr, fun i u hi => (cell_keep _ hh).trans (hu i u hi)⟩
  | .st p, x, _, h => by unfold Rd at h ⊢; exact Rd.keep (t := p) hz hS hb h
  | .ptr p, x, _, h => by
    unfold Rd at h ⊢
    obtain ⟨ad, rfl, hs, hl, us, hr, hu⟩ := h
    have hh := hb _ hl hs
    exact ⟨ad, rfl, fun h => hs (hS _ hl h), by omega, us, Rd.keep hz hS hb hr, fun i u hi => (cell_keep _ hh).trans (hu i u hi)⟩
  | .pair a b, x, _, h => by
    unfold Rd at h ⊢
    obtain ⟨c1, c2, rfl, h1, h2⟩ := h
    exact ⟨c1, c2, rfl, Rd.keep hz hS hb h1, Rd.keep hz hS hb h2⟩
  | .hole, _, _, h => by unfold Rd at h ⊢; exact h
  | .fn f p, x, _, h => by
    unfold Rd at h ⊢
    obtain ⟨vs, e, h1⟩ := h
    exact ⟨vs, e, Rd.keep hz hS hb h1⟩
theorem Rd.flat {w w' : World} {S S' : Nat → Prop} : ∀ {t : Ty} {x : t.I} {cs : List Value}, t.flat = true → Rd w S t x cs → Rd w' S' t x cs
  | .int _, _, _, _, h => by unfold Rd at h ⊢; exact h
  | .bool, _, _, _, h => by unfold Rd at h ⊢; exact h
  | .str, _, _, _, h => by unfold Rd at h ⊢; exact h
  | .eno _, _, _, _, h => by unfold Rd at h ⊢; exact h
  | .arr n e, xs, _, hf, h => by
    unfold Rd at h ⊢
    refine ⟨h.1, h.2.1, fun j x hj => ?_⟩
    obtain ⟨us, hr, hu⟩ := h.2.2 j x hj
    exact ⟨us, Rd.flat (t := e) hf hr, hu⟩
  | .st p, x, _, hf, h => by unfold Rd at h ⊢; exact Rd.flat (t := p) hf h
  | .pair a b, x, _, hf, h => by
    unfold Rd at h ⊢
    simp only [Ty.flat, Bool.and_eq_true] at hf
    obtain ⟨c1, c2, rfl, h1, h2⟩ := h
    exact ⟨c1, c2, rfl, Rd.flat hf.1 h1, Rd.flat hf.2 h2⟩
  | .hole, _, _, _, h => by unfold Rd at h ⊢; exact h
def mkV : Ty → List Value → Value
  | .st _, cs => .agg cs.toArray
  | .pair _ _, cs => .agg cs.toArray
  | .arr _ _, cs => .agg cs.toArray
  | _, cs => cs.headD undef
def RdV (w : World) (S : Nat → Prop) (t : Ty) (x : t.I) (v : Value) : Prop := ∃ cs, Rd w S t x cs ∧ v = mkV t cs
theorem RdV.keep {w w' : World} {S S' : Nat → Prop} (hz : w.heap.size ≤ w'.heap.size) (hS : ∀ b, b < w.heap.size → S' b → S b)
    (hb : ∀ b, b < w.heap.size → ¬ S b → w'.heap[b]? = w.heap[b]?) {t : Ty} {x : t.I} {v : Value} (h : RdV w S t x v) : RdV w' S' t x v :=
  let ⟨cs, h1, h2⟩ := h; ⟨cs, h1.keep hz hS hb, h2⟩
theorem RdV.flat {w w' : World} {S S' : Nat → Prop} {t : Ty} {x : t.I} {v : Value} (hf : t.flat = true) (h : RdV w S t x v) : RdV w' S' t x v :=
  let ⟨cs, h1, h2⟩ := h; ⟨cs, h1.flat hf, h2⟩
theorem one_cell {t : Ty} {cs : List Value} (h : cs.length = t.size) (h1 : t.size = 1) : ∃ u, cs = [u] := by
  match cs, h with
  | [u], _ => exact ⟨u, rfl⟩
  | [], h => simp at h; omega
  | _ :: _ :: _, h => simp at h; omega
theorem mkV_cells {w : World} {S : Nat → Prop} {t : Ty} {x : t.I} {cs : List Value} (h : Rd w S t x cs) : (mkV t cs).cells.toList = cs := by
  have hl := h.len
  have ho := h.one
  cases t with
  | st p => simp [mkV, Value.cells]
  | pair a b => simp [mkV, Value.cells]
  | arr n e => simp [mkV, Value.cells]
  | _ =>
    obtain ⟨u, rfl⟩ := one_cell hl rfl
    have := ho u (by simp)
    simp only [mkV, List.headD_cons]
    cases u <;> simp_all [Value.cells, Value.oneCell']
theorem RdV.cells {w : World} {S : Nat → Prop} {t : Ty} {x : t.I} {v : Value} (h : RdV w S t x v) : Rd w S t x v.cells.toList := by
  obtain ⟨cs, h1, rfl⟩ := h
  rw [mkV_cells h1]; exact h1
theorem RdV.cast {w : World} {S : Nat → Prop} {t u : Ty} {x : t.I} {y : u.I} {v : Value} (hc : Ty.cast t u x = some y) (h : RdV w S t x v) : RdV w S u y v := by
  unfold Ty.cast at hc
  split at hc
  · rename_i e; subst e; cases hc; exact h
  · cases hc
theorem Ty.cast_eq {t u : Ty} {x : t.I} {y : u.I} (hc : Ty.cast t u x = some y) : t = u ∧ HEq x y := by
  unfold Ty.cast at hc
  split at hc
  · rename_i e; subst e; cases hc; exact ⟨rfl, HEq.rfl⟩
  · cases hc
def RowRd (w : World) (S : Nat → Prop) (e : Ty) (xs : List e.I) (cs : List Value) : Prop :=
  ∀ j x, xs[j]? = some x → ∃ us, Rd w S e x us ∧ ∀ i u, us[i]? = some u → cs[j * e.size + i]? = some u
theorem RowRd.keep {w w' : World} {S S' : Nat → Prop} (hz : w.heap.size ≤ w'.heap.size) (hS : ∀ b, b < w.heap.size → S' b → S b)
    (hb : ∀ b, b < w.heap.size → ¬ S b → w'.heap[b]? = w.heap[b]?) {e : Ty} {xs : List e.I} {cs : List Value} (h : RowRd w S e xs cs) : RowRd w' S' e xs cs :=
  fun j x hj => let ⟨us, h1, h2⟩ := h j x hj; ⟨us, h1.keep hz hS hb, h2⟩
theorem RowRd.flat {w w' : World} {S S' : Nat → Prop} {e : Ty} {xs : List e.I} {cs : List Value} (hf : e.flat = true) (h : RowRd w S e xs cs) : RowRd w' S' e xs cs :=
  fun j x hj => let ⟨us, h1, h2⟩ := h j x hj; ⟨us, h1.flat hf, h2⟩
def Av (S : Nat → Prop) (B : Nat) (fr : Bool) (b : Nat) : Prop := S b ∨ (fr = true ∧ b < B)
def ObjRd (B : Nat) (w : World) (S : Nat → Prop) (hv : Value) (o : Obj) : Prop :=
  ∃ cs, w.ownsRow 0 o.eid o.e.size hv o.xs.length cs ∧ RowRd w (Av S B o.fr) o.e o.xs cs
structure Lnt where
  v : Value
  k : Nat
  n : Nat
  more : Nat → Prop := fun _ => False
  av : Nat → Prop := fun _ => False
def Lnt.none : Lnt := ⟨.slice Option.none 0 0, 0, 0, fun _ => False, fun _ => False⟩
def WinRd (w : World) (S : Nat → Prop) (X : Lnt) (o : Obj) : Prop :=
  ∃ cs, cs.length = o.xs.length * o.e.size ∧ RowRd w S o.e o.xs cs ∧
    ((X.v = .slice Option.none 0 0 ∧ o.xs.length = 0) ∨ ∃ b cap cur, X.v = .slice (some ⟨b, X.k, Option.none⟩) o.xs.length cap ∧ o.xs.length ≤ cap ∧ X.n = o.xs.length * o.e.size ∧
      w.heap[b]? = some (.cells cur o.eid (0, 0)) ∧ X.k + X.n ≤ cur.size ∧ (cur.toList.drop X.k).take X.n = cs)
def WinVal (hv : Value) (size lo n : Nat) (v : Value) : Prop :=
  (hv = .slice Option.none 0 0 ∧ v = .slice Option.none 0 0 ∧ n = 0 ∧ lo = 0) ∨
  ∃ b k m cap k' cap', hv = .slice (some ⟨b, k, Option.none⟩) m cap ∧ v = .slice (some ⟨b, k', Option.none⟩) n cap' ∧ n ≤ cap' ∧ lo + n ≤ m ∧ (k' = k + lo * size ∨ (n = 0 ∧ k' = k))
structure Kept (B : Nat) (X : Lnt) (w w' : World) : Prop where
  os : w'.os = w.os
  tape : w'.tape = w.tape
  output : w'.output = w.output
  size : w.heap.size ≤ w'.heap.size
  block : ∀ k, k < B → X.v.ownBlock ≠ some k → ¬ X.more k → w'.heap[k]? = w.heap[k]?
  win : ∀ b, X.v.ownBlock = some b → ∃ cur cur' eid, w.heap[b]? = some (.cells cur eid (0, 0)) ∧ w'.heap[b]? = some (.cells cur' eid (0, 0)) ∧ cur'.size = cur.size ∧ ∀ j : Nat, (j < X.k ∨ X.k + X.n ≤ j) → cur'[j]? = cur[j]?
theorem Kept.trans {B : Nat} {X : Lnt} {a b c : World} (h : Kept B X a b) (k : Kept B X b c) : Kept B X a c := by
  refine ⟨k.os.trans h.os, k.tape.trans h.tape, k.output.trans h.output, Nat.le_trans h.size k.size, fun i hi hn hm => (k.block i hi hn hm).trans (h.block i hi hn hm), fun q hq => ?_⟩
  obtain ⟨c1, c2, e, h1, h2, h3, h4⟩ := h.win q hq
  obtain ⟨d1, d2, e', k1, k2, k3, k4⟩ := k.win q hq
  rw [h2] at k1
  injection k1 with k1
  injection k1 with k1 k1'
  subst k1; subst k1'
  exact ⟨c1, d2, e, h1, k2, k3.trans h3, fun j hj => (k4 j hj).trans (h4 j hj)⟩
theorem Kept.grown {B : Nat} {X : Lnt} {a w w' : World} {row : Option Nat} (h : Kept B X a w) (hg : w.grownBy w' row) (hB : B ≤ w.heap.size) (hr : ∀ k, row = some k → B ≤ k ∨ (X.more k ∧ X.v.ownBlock ≠ some k)) (hX : ∀ b, X.v.ownBlock = some b → b < B) : Kept B X a w' := by
  have hb : ∀ k, k < B → ¬ (X.more k ∧ X.v.ownBlock ≠ some k) → w'.heap[k]? = w.heap[k]? := fun k hk hm => hg.block k (by omega) (fun e => by rcases hr k e.symm with h | h; omega; exact hm h)
  refine ⟨hg.os.trans h.os, hg.tape.trans h.tape, hg.output.trans h.output, Nat.le_trans h.size hg.size, fun k hk hn hm => (hb k hk fun h => hm h.1).trans (h.block k hk hn hm), fun q hq => ?_⟩
  obtain ⟨c1, c2, e, h1, h2, h3, h4⟩ := h.win q hq
  exact ⟨c1, c2, e, h1, by rw [hb q (hX q hq) (fun h => h.2 hq)]; exact h2, h3, h4⟩
theorem Kept.below {B : Nat} {w w' : World} (h : Kept B Lnt.none w w') : Below B w w' := ⟨h.os, h.tape, h.output, h.size, fun k hk => h.block k hk (by simp [Lnt.none, Value.ownBlock]) (fun h => h.elim)⟩
theorem Kept.self (B : Nat) (w : World) : Kept B Lnt.none w w := ⟨rfl, rfl, rfl, Nat.le_refl _, fun _ _ _ _ => rfl, fun b hb => by simp [Lnt.none, Value.ownBlock] at hb⟩
def Slot1Rd (B : Nat) (X : Lnt) (w : World) (S : Nat → Prop) (ν : Nat → Value) (objs : List (Nat × Obj)) : Slot → Value → Prop
  | .undef, _ => True
  | .skip, v => v = undef
  | .lit b, v => v = .bool b
  | .val fr t x, v => RdV w (Av S B fr) t x v
  | .nil, v => v = .slice none 0 0
  | .nili, v => v = .nilIface
  | .nilp, v => v = .pointer none
  | .hv t x rows, v => t.flat = true ∧ RdV w (fun _ => True) t x v ∧ ∀ q ∈ rows, v.cells[q.1]? = some (ν q.2) ∧ ∃ o, olook q.2 objs = some o
  | .nn fr e xs, v => RdV w (Av S B fr) (.sl e) xs v ∧ ∃ a n c, v = .slice (some a) n c
  | .ref g, v => v = ν g ∧ ∃ o, olook g objs = some o
  | .eptr g i path t snap, v => ∃ o b n cap el, olook g objs = some o ∧ ν g = .slice (some ⟨b, 0, none⟩) n cap ∧ 0 ≤ i ∧ v = .pointer (some ⟨b, i.toNat * o.e.size + offAt o.e path, none⟩) ∧
      o.xs[i.toNat]? = some el ∧ tyAt o.e path = some t ∧ ∀ x, snap = some x → getAt o.e path el = some ⟨t, x⟩
  | .cptr fr t x, v => ∃ ad, v = .pointer (some ad) ∧ ¬ Av S B fr ad.block ∧ ad.block < w.heap.size ∧ ∃ us, Rd w (Av S B fr) t x us ∧ ∀ i u, us[i]? = some u → w.cell? (ad.add i) = some u
  | .view g lo _ e xs, v => (∃ o, olook g objs = some o) ∧ RdV w (fun b => S b ∧ (ν g).ownBlock ≠ some b) (.sl e) xs v ∧ WinVal (ν g) e.size lo xs.length v
  | .lref, v => v = X.v
  | .leptr i e path t, v => ∃ b n cap, X.v = .slice (some ⟨b, X.k, Option.none⟩) n cap ∧ 0 ≤ i ∧ v = .pointer (some ⟨b, X.k + (i.toNat * e.size + offAt e path), Option.none⟩) ∧ tyAt e path = some t
  | .lview lo e xs, v => RdV w (fun b => S b ∧ X.v.ownBlock ≠ some b) (.sl e) xs v ∧ WinVal X.v e.size lo xs.length v
  | .lenof n, v => ∃ A cap, v = .slice A n cap
  | .tup _, _ => True
def SlotRd (B : Nat) (X : Lnt) (w : World) (S : Nat → Prop) (ν : Nat → Value) (objs : List (Nat × Obj)) : Slot → Value → Prop
  | .tup ss, v => ∃ vs : Array Value, v = .tuple vs ∧ vs.size = ss.length ∧ ∀ (i : Nat) (s : Slot), ss[i]? = some s → ∃ u, vs[i]? = some u ∧ Slot1Rd B X w S ν objs s u
  | s, v => Slot1Rd B X w S ν objs s v
def Held (w : World) : Prop := ∀ (i : Nat) (c : Nat × Nat × Value), heldCells[i]? = some c → w.cell? ⟨c.1, c.2.1, none⟩ = some c.2.2
def HeldIn (B : Nat) (X : Lnt) (w : World) : Prop := ∀ (i : Nat) (c : Nat × Nat × Value), heldCells[i]? = some c → w.cell? ⟨c.1, c.2.1, none⟩ = some c.2.2 ∧ c.1 < B ∧ X.v.ownBlock ≠ some c.1 ∧ ¬ X.more c.1
theorem Held.lt {b i : Nat} {w : World} {c : Value} (h : w.cell? ⟨b, i, none⟩ = some c) : b < w.heap.size := World.block_lt_of_cell? w ⟨b, i, none⟩ h
theorem Held.start {w : World} (h : Held w) : HeldIn w.heap.size Lnt.none w := fun i c hc => ⟨h i c hc, Held.lt (h i c hc), by simp [Lnt.none, Value.ownBlock], fun h => h.elim⟩
theorem HeldIn.kept {B : Nat} {X : Lnt} {w w' : World} (h : HeldIn B X w) (k : Kept B X w w') : Held w' := fun i c hc => by
  obtain ⟨h1, h2, h3, h4⟩ := h i c hc
  exact (World.cell?_of_block (a := ⟨c.1, c.2.1, none⟩) (k.block c.1 h2 h3 h4)).trans h1
theorem cellsOf_len : ∀ {t : Ty} {x : t.I} {cs : List Value}, cellsOf t x = some cs → cs.length = t.size
  | .int _, _, _, h => by cases h; rfl
  | .bool, _, _, h => by cases h; rfl
  | .arr n e, xs, cs, h => by
    have ih := @cellsOf_len e
    have key : ∀ (xs : List e.I) (cs : List Value), rowCells (cellsOf e) xs = some cs → cs.length = xs.length * e.size := by
      intro xs
      induction xs with
      | nil => intro cs h; cases h; simp
      | cons x r ihr =>
        intro cs h
        unfold rowCells at h
        split at h
        · rename_i a b ha hb
          cases h
          rw [List.length_append, ih ha, ihr _ hb, List.length_cons, Nat.add_mul, Nat.one_mul, Nat.add_comm]
        · cases h
    unfold cellsOf at h
    split at h
    · rename_i hn
      rw [key _ _ h, Nat.eq_of_beq_eq_true hn]
      rfl
    · cases h
  | .st p, x, cs, h => @cellsOf_len p x cs h
  | .pair a b, x, cs, h => by
    unfold cellsOf at h
    split at h
    · rename_i c d hc hd
      cases h
      rw [List.length_append, cellsOf_len hc, cellsOf_len hd]
      rfl
    · cases h
theorem cellsOf_rd {w : World} {S : Nat → Prop} : ∀ {t : Ty} {x : t.I} {cs : List Value}, cellsOf t x = some cs → Rd w S t x cs
  | .int _, _, _, h => by cases h; rfl
  | .bool, _, _, h => by cases h; rfl
  | .arr n e, xs, cs, h => by
    have ih := @cellsOf_rd w S e
    have hlen := cellsOf_len h
    have key : ∀ (xs : List e.I) (cs : List Value), rowCells (cellsOf e) xs = some cs → ∀ (j : Nat) (x : e.I), xs[j]? = some x → ∃ us, Rd w S e x us ∧ ∀ (i : Nat) (u : Value), us[i]? = some u → cs[j * e.size + i]? = some u := by
      intro xs
      induction xs with
      | nil => intro cs _ j x hx; simp at hx
      | cons y r ihr =>
        intro cs h j x hx
        unfold rowCells at h
        split at h
        · rename_i a b ha hb
          cases h
          cases j with
          | zero =>
            cases hx
            refine ⟨a, ih ha, fun i u hu => ?_⟩
            have hi : i < a.length := (List.getElem?_eq_some_iff.1 hu).1
            rw [Nat.zero_mul, Nat.zero_add, List.getElem?_append_left hi]
            exact hu
          | succ j =>
            obtain ⟨us, h1, h2⟩ := ihr _ hb j x hx
            refine ⟨us, h1, fun i u hu => ?_⟩
            have := h2 i u hu
            rw [List.getElem?_append_right (by rw [cellsOf_len ha, Nat.add_mul]; omega), cellsOf_len ha, show (j + 1) * e.size + i - e.size = j * e.size + i by rw [Nat.add_mul]; omega]
            exact this
        · cases h
    unfold cellsOf at h
    split at h
    · rename_i hn
      exact ⟨Nat.eq_of_beq_eq_true hn, hlen, key _ _ h⟩
    · cases h
  | .st p, x, cs, h => @cellsOf_rd w S p x cs h
  | .pair a b, x, cs, h => by
    unfold cellsOf at h
    split at h
    · rename_i c d hc hd
      cases h
      exact ⟨c, d, rfl, cellsOf_rd hc, cellsOf_rd hd⟩
    · cases h
def BoxAt (X : Lnt) (ν : Nat → Value) (objs : List (Nat × Obj)) : Option Nat → Nat → Nat → Prop
  | some g, b, k => (∃ o, olook g objs = some o) ∧ (∃ n cap, ν g = .slice (some ⟨b, 0, none⟩) n cap) ∧ k = 0
  | none, b, k => (∃ n cap, X.v = .slice (some ⟨b, X.k, none⟩) n cap) ∧ k = X.k
def HoleRd (X : Lnt) (w : World) (ν : Nat → Value) (objs : List (Nat × Obj)) (h : Hole) : Prop :=
  ∃ b k, BoxAt X ν objs h.box b k ∧ w.cell? ⟨b, k + h.off, none⟩ = some (ν h.row) ∧ ∃ p, olook h.row objs = some p
structure Inv (B : Nat) (X : Lnt) (w0 : World) (S : Nat → Prop) (ν : Nat → Value) (st : St) (tmps : Array Value) (w : World) : Prop where
  fr : Kept B X w0 w
  base : B ≤ w0.heap.size ∧ HeldIn B X w0
  len : st.env.length = tmps.size
  slot : ∀ (i : Nat) (s : Slot), st.env[i]? = some s → ∃ v : Value, tmps[i]? = some v ∧ SlotRd B X w S ν st.objs s v
  obj : ∀ g o, olook g st.objs = some o → ObjRd B w S (ν g) o
  own : ∀ g o b, olook g st.objs = some o → (ν g).ownBlock = some b → S b
  lt : ∀ b, S b → b < w.heap.size
  win : ∀ o, st.lent = some o → WinRd w (Av S B false) X o
  lx2 : (∀ b, X.v.ownBlock = some b → S b ∧ b < B) ∧ ∀ b, X.av b → S b ∧ b < B ∧ ¬ X.more b
  lm : ∀ b, X.more b → S b ∧ b < B ∧ X.v.ownBlock ≠ some b
  nw : ∀ g o b, olook g st.objs = some o → (ν g).ownBlock = some b → B ≤ b ∨ (isTk g = true ∧ X.more b)
  hole : ∀ h ∈ st.holes, HoleRd X w ν st.objs h
  sep : ∀ g h o p b, olook g st.objs = some o → olook h st.objs = some p → (ν g).ownBlock = some b → (ν h).ownBlock = some b → g = h
theorem Inv.lx {B : Nat} {X : Lnt} {w0 w : World} {S : Nat → Prop} {ν : Nat → Value} {st : St} {tmps : Array Value} (h : Inv B X w0 S ν st tmps w) : ∀ b, X.v.ownBlock = some b → S b ∧ b < B := h.lx2.1
theorem Inv.la {B : Nat} {X : Lnt} {w0 w : World} {S : Nat → Prop} {ν : Nat → Value} {st : St} {tmps : Array Value} (h : Inv B X w0 S ν st tmps w) : ∀ b, X.av b → S b ∧ b < B ∧ ¬ X.more b := h.lx2.2
end Go.Proofs.YtnldcpanpojeiaaGreatDoor
