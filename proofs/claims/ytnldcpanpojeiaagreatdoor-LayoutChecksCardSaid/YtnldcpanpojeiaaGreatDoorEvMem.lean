/-
  Operations that write, or make memory: what the reading says of each is what the program does.
-/
import Derived.Test.YtnldcpanpojeiaaGreatDoorEvRead2
import Derived.Laws.CopyRow
import Derived.Laws.MakeOwn
namespace Go.Proofs.YtnldcpanpojeiaaGreatDoor
open Go.RowKit
variable {P : Program} {Λ : List Nat} {G : Ctx} {A : Ann} {B : Nat} {X : Lnt} {w0 w w' : World} {S S' : Nat → Prop} {ν : Nat → Value} {st st' : St} {tmps : Array Value} {ds : List Deferred}
def MemOk (P : Program) (Λ : List Nat) (B : Nat) (X : Lnt) (w0 : World) (o : Oper) (tmps : Array Value) (ds : List Deferred) (w : World) (st' : St) : Prop :=
  ∃ v w' S' ν', ((execOp (⟨tmps, ds⟩ : Act).eval o).run P w = .ok (.value v) w' ∨ ((execOp (⟨tmps, ds⟩ : Act).eval o).run P w = .ok .skip w' ∧ v = undef)) ∧ Inv B X w0 S' ν' st' (Act.put ⟨tmps, ds⟩ o.dst v).tmps w' ∧ (growOp Λ o = true → Ext w w')
theorem PureOk.mem {o : Oper} (h : PureOk P B X w0 S ν o tmps ds w st') : MemOk P Λ B X w0 o tmps ds w st' :=
  let ⟨v, h1, S1, _, h2⟩ := h; ⟨v, w, S1, ν, .inl (h1 w (Ext.refl w)), h2, fun _ => Ext.refl w⟩
theorem rd_fr {fr : Bool} {t : Ty} {y : t.I} {v : Value} (h : RdV w (Av S B fr) t y v) : RdV w (Av S B (fr || t.flat)) t y v := by
  cases hf : t.flat with
  | true => exact h.flat hf
  | false => simpa using h
theorem nili_val {S : Nat → Prop} {tf te : Nat} : RdV w S (.err tf te) none .nilIface := by
  refine ⟨[.nilIface], ?_, rfl⟩
  unfold Rd
  rfl
theorem nil_val {S : Nat → Prop} {e : Ty} : RdV w S (.sl e) [] (.slice none 0 0) := by
  refine ⟨[.slice none 0 0], ?_, rfl⟩
  unfold Rd
  exact ⟨none, 0, rfl, Nat.le_refl _, fun _ => rfl, fun j x hj => by simp at hj⟩
theorem asOwn_val {s : Slot} {t : Ty} {r : Bool × t.I} (h : st.asOwn s t = some r) : st.asVal s t = some r ∧ (∀ tag, s = .ref tag → isTk tag = false) ∧ (∀ a b c d e, s ≠ .view a b c d e) ∧ s ≠ .lref ∧ ∀ a b c, s ≠ .lview a b c := by
  unfold St.asOwn at h
  split at h
  · cases h
  · cases h
  · cases h
  · rename_i tag
    split at h
    · cases h
    · rename_i hk
      refine ⟨h, fun g e => ?_, (by intro _ _ _ _ _ e; cases e), (by intro e; cases e), (by intro _ _ _ e; cases e)⟩
      cases e
      cases hi : isTk tag with
      | true => exact absurd hi hk
      | false => rfl
  · rename_i h1 h2 h3 h4
    exact ⟨h, fun g e => absurd e (h4 g), h1, h2, h3⟩
theorem give_ok (h : Inv B X w0 S ν st tmps w) {s : Slot} {v : Value} (hs : SlotRd B X w S ν st.objs s v) {t : Ty} {fr : Bool} {y : t.I} (ha : st.asOwn s t = some (fr, y)) :
    ∃ S', (∀ b, S' b → S b) ∧ Inv B X w0 S' ν (st.give s) tmps w ∧ RdV w (Av S' B fr) t y v := by
  obtain ⟨ha', htk, hnv, hnl, hnlv⟩ := asOwn_val ha
  clear ha
  have ha := ha'
  clear ha'
  unfold St.asVal at ha
  split at ha
  · rename_i fr' u x
    split at ha
    · rename_i y' hy
      cases ha
      exact ⟨S, fun _ h => h, h, RdV.cast hy hs⟩
    · cases ha
  · rename_i b
    split at ha
    · rename_i y' hy
      cases ha
      have hv : v = .bool b := hs
      rw [hv]
      exact ⟨S, fun _ h => h, h, RdV.cast hy (bool_val b)⟩
    · cases ha
  · split at ha
    · cases ha
      have hv : v = .slice none 0 0 := hs
      rw [hv]
      exact ⟨S, fun _ h => h, h, nil_val⟩
    · cases ha
  · split at ha
    · cases ha
      have hv : v = .nilIface := hs
      rw [hv]
      exact ⟨S, fun _ h => h, h, nili_val⟩
    · cases ha
  · split at ha
    · rename_i y' hy
      cases ha
      exact ⟨S, fun _ h => h, h, RdV.cast hy (show Slot1Rd B X w S ν st.objs (.nn _ _ _) v from hs).1⟩
    · cases ha
  · rename_i tag
    split at ha
    · rename_i o ho
      split at ha
      · rename_i y' hy
        cases ha
        obtain ⟨e1, e2⟩ := ref_val h hs ho
        refine ⟨fun b => S b ∧ (ν tag).ownBlock ≠ some b, fun b hb => hb.1, ?_, ?_⟩
        · have : st.give (.ref tag) = st.freeze tag o := by simp only [St.give, ho]
          rw [this]
          exact h.freeze ho (htk tag rfl)
        · rw [e1]
          refine RdV.cast hy (e2.val fun b hb hs => ?_)
          rcases hs with hs | hs
          · exact ⟨.inl hs.1, hs.2⟩
          · refine ⟨.inr hs, fun e => ?_⟩
            rcases h.nw tag o b ho e with h3 | ⟨h3, _⟩
            · omega
            · rw [htk tag rfl] at h3; cases h3
      · cases ha
    · cases ha
  · exact absurd rfl (hnv _ _ _ _ _)
  · exact absurd rfl hnl
  · exact absurd rfl (hnlv _ _ _)
  · cases ha
def splice (cs : List Value) (k : Nat) (vs : List Value) : List Value := cs.take k ++ vs ++ cs.drop (k + vs.length)
theorem splice_len {cs vs : List Value} {k : Nat} (h : k + vs.length ≤ cs.length) : (splice cs k vs).length = cs.length := by
  simp only [splice, List.length_append, List.length_take, List.length_drop]; omega
theorem splice_out {cs vs : List Value} {k j : Nat} (h : k + vs.length ≤ cs.length) (hj : j < k ∨ k + vs.length ≤ j) : (splice cs k vs)[j]? = cs[j]? := by
  unfold splice
  rcases hj with hj | hj
  · rw [List.append_assoc, List.getElem?_append_left (by rw [List.length_take]; omega), List.getElem?_take, if_pos hj]
  · rw [List.getElem?_append_right (by simp only [List.length_append, List.length_take]; omega), List.getElem?_drop]
    congr 1
    simp only [List.length_append, List.length_take]; omega
theorem splice_in {cs vs : List Value} {k j : Nat} (h : k + vs.length ≤ cs.length) (hj : j < vs.length) : (splice cs k vs)[k + j]? = vs[j]? := by
  unfold splice
  rw [List.getElem?_append_left (by simp only [List.length_append, List.length_take]; omega), List.getElem?_append_right (by rw [List.length_take]; omega)]
  congr 1
  rw [List.length_take]; omega
theorem off_le : ∀ {t : Ty} {path : List Step} {u : Ty}, tyAt t path = some u → offAt t path + u.size ≤ t.size
  | t, [], u, h => by rw [tyAt_nil] at h; cases h; rw [offAt_nil]; omega
  | .st p, .enter :: r, u, h => off_le (t := p) (path := r) h
  | .pair a b, .left :: r, u, h => by
    have := off_le (t := a) (path := r) h
    show offAt a r + u.size ≤ a.size + b.size
    omega
  | .pair a b, .right :: r, u, h => by
    have := off_le (t := b) (path := r) h
    show a.size + offAt b r + u.size ≤ a.size + b.size
    omega
  | .arr n e, .at i :: r, u, h => by
    unfold tyAt at h
    split at h
    · rename_i hi
      have := off_le (t := e) (path := r) h
      show i.toNat * e.size + offAt e r + u.size ≤ n * e.size
      have h2 : (i.toNat + 1) * e.size ≤ n * e.size := Nat.mul_le_mul_right _ (by omega)
      rw [Nat.add_mul] at h2
      omega
    · cases h
  | .int _, .enter :: _, _, h => by cases h
  | .int _, .left :: _, _, h => by cases h
  | .int _, .right :: _, _, h => by cases h
  | .int _, .at _ :: _, _, h => by cases h
  | .bool, .enter :: _, _, h => by cases h
  | .bool, .left :: _, _, h => by cases h
  | .bool, .right :: _, _, h => by cases h
  | .bool, .at _ :: _, _, h => by cases h
  | .str, .enter :: _, _, h => by cases h
  | .str, .left :: _, _, h => by cases h
  | .str, .right :: _, _, h => by cases h
  | .str, .at _ :: _, _, h => by cases h
  | .err _ _, .enter :: _, _, h => by cases h
  | .err _ _, .left :: _, _, h => by cases h
  | .err _ _, .right :: _, _, h => by cases h
  | .err _ _, .at _ :: _, _, h => by cases h
  | .eno _, .enter :: _, _, h => by cases h
  | .eno _, .left :: _, _, h => by cases h
  | .eno _, .right :: _, _, h => by cases h
  | .eno _, .at _ :: _, _, h => by cases h
  | .arr _ _, .enter :: _, _, h => by cases h
  | .arr _ _, .left :: _, _, h => by cases h
  | .arr _ _, .right :: _, _, h => by cases h
  | .sl _, .enter :: _, _, h => by cases h
  | .sl _, .left :: _, _, h => by cases h
  | .sl _, .right :: _, _, h => by cases h
  | .sl _, .at _ :: _, _, h => by cases h
  | .ptr _, .enter :: _, _, h => by cases h
  | .fn _ _, .enter :: _, _, h => by cases h
  | .hole, .enter :: _, _, h => by cases h
  | .ptr _, .left :: _, _, h => by cases h
  | .fn _ _, .left :: _, _, h => by cases h
  | .hole, .left :: _, _, h => by cases h
  | .ptr _, .right :: _, _, h => by cases h
  | .fn _ _, .right :: _, _, h => by cases h
  | .hole, .right :: _, _, h => by cases h
  | .ptr _, .at _ :: _, _, h => by cases h
  | .fn _ _, .at _ :: _, _, h => by cases h
  | .hole, .at _ :: _, _, h => by cases h
  | .st _, .left :: _, _, h => by cases h
  | .st _, .right :: _, _, h => by cases h
  | .st _, .at _ :: _, _, h => by cases h
  | .pair _ _, .enter :: _, _, h => by cases h
  | .pair _ _, .at _ :: _, _, h => by cases h
theorem splice_left {c1 c2 vs : List Value} {k : Nat} (h : k + vs.length ≤ c1.length) : splice (c1 ++ c2) k vs = splice c1 k vs ++ c2 := by
  unfold splice
  rw [List.take_append_of_le_length (by omega), List.drop_append_of_le_length (by omega)]
  simp only [List.append_assoc]
theorem splice_right {c1 c2 vs : List Value} {k : Nat} : splice (c1 ++ c2) (c1.length + k) vs = c1 ++ splice c2 k vs := by
  unfold splice
  rw [List.take_append, List.drop_append]
  rw [show c1.length + k - c1.length = k from by omega, List.take_of_length_le (by omega), show c1.length + k + vs.length - c1.length = k + vs.length from by omega, List.drop_eq_nil_of_le (by omega)]
  simp only [List.append_assoc, List.nil_append]
theorem row_splice {S : Nat → Prop} {e : Ty} {xs : List e.I} {cs us vs : List Value} (h : RowRd w S e xs cs) (hl : cs.length = xs.length * e.size) {i : Nat} {x x' : e.I} (hi : xs[i]? = some x) {off : Nat}
    (k1 : Rd w S e x vs) (k2 : ∀ q u, vs[q]? = some u → cs[i * e.size + q]? = some u) (k4 : Rd w S e x' (splice vs off us)) (hle : off + us.length ≤ e.size) : RowRd w S e (xs.set i x') (splice cs (i * e.size + off) us) := by
  have hil : i < xs.length := by
    rcases Nat.lt_or_ge i xs.length with h' | h'
    · exact h'
    · rw [List.getElem?_eq_none h'] at hi; cases hi
  have hmul : (i + 1) * e.size ≤ xs.length * e.size := Nat.mul_le_mul_right _ hil
  have hmul' : (i + 1) * e.size = i * e.size + e.size := by rw [Nat.add_mul]; omega
  have hin : i * e.size + off + us.length ≤ cs.length := by omega
  intro j z hj
  rw [List.getElem?_set] at hj
  by_cases hij : i = j
  · subst hij
    rw [if_pos rfl, if_pos hil] at hj
    cases hj
    refine ⟨_, k4, fun q v hq => ?_⟩
    have hvl := k1.len
    have hql : q < e.size := by
      have := splice_len (cs := vs) (k := off) (vs := us) (by omega)
      rcases Nat.lt_or_ge q (splice vs (off) us).length with h' | h'
      · omega
      · rw [List.getElem?_eq_none h'] at hq; cases hq
    by_cases hq1 : q < off ∨ off + us.length ≤ q
    · rw [splice_out (by omega) hq1] at hq
      rw [splice_out hin (by omega)]
      exact k2 q v hq
    · have : q = off + (q - off) := by omega
      rw [this, splice_in (by omega) (by omega)] at hq
      rw [this, show i * e.size + (off + (q - off)) = i * e.size + off + (q - off) from by omega, splice_in hin (by omega)]
      exact hq
  · rw [if_neg hij] at hj
    obtain ⟨ws, m1, m2⟩ := h j z hj
    refine ⟨ws, m1, fun q v hq => ?_⟩
    have hql : q < e.size := by
      rcases Nat.lt_or_ge q ws.length with h' | h'
      · rw [m1.len] at h'; exact h'
      · rw [List.getElem?_eq_none h'] at hq; cases hq
    rw [splice_out hin]
    · exact m2 q v hq
    · rcases Nat.lt_or_ge i j with h' | h'
      · right
        have : (i + 1) * e.size ≤ j * e.size := Nat.mul_le_mul_right _ h'
        omega
      · left
        have : (j + 1) * e.size ≤ i * e.size := Nat.mul_le_mul_right _ (by omega)
        rw [Nat.add_mul] at this
        omega
theorem setAt_rd {S : Nat → Prop} : ∀ {t : Ty} {path : List Step} {x x' : t.I} {cs us : List Value} {u : Ty} {y : u.I}, Rd w S t x cs → setAt t path x u y = some x' → Rd w S u y us →
    tyAt t path = some u ∧ Rd w S t x' (splice cs (offAt t path) us)
  | t, [], x, x', cs, us, u, y, h, hs, hy => by
    rw [setAt_nil] at hs
    have e := (cast_self hs).symm
    subst e
    have hl := h.len
    have hl' := hy.len
    refine ⟨tyAt_nil _, ?_⟩
    have : splice cs (offAt t []) us = us := by
      unfold splice
      rw [offAt_nil, List.take_zero, List.nil_append, Nat.zero_add, List.drop_eq_nil_of_le (by omega), List.append_nil]
    rw [this]
    have e2 := cast_val hs
    cases e2
    exact hy
  | .st p, .enter :: r, x, x', cs, us, u, y, h, hs, hy => by
    unfold Rd at h
    obtain ⟨h1, h2⟩ := setAt_rd (t := p) (path := r) h hs hy
    exact ⟨h1, by unfold Rd; exact h2⟩
  | .pair a b, .left :: r, x, x', cs, us, u, y, h, hs, hy => by
    unfold Rd at h
    obtain ⟨c1, c2, rfl, k1, k2⟩ := h
    unfold setAt at hs
    split at hs
    · rename_i z hz
      cases hs
      obtain ⟨h1, h2⟩ := setAt_rd (t := a) (path := r) k1 hz hy
      refine ⟨h1, ?_⟩
      have hle := off_le h1
      have e : splice (c1 ++ c2) (offAt (.pair a b) (.left :: r)) us = splice c1 (offAt a r) us ++ c2 := splice_left (by rw [k1.len, hy.len]; exact hle)
      rw [e]
      unfold Rd
      exact ⟨_, _, rfl, h2, k2⟩
    · cases hs
  | .pair a b, .right :: r, x, x', cs, us, u, y, h, hs, hy => by
    unfold Rd at h
    obtain ⟨c1, c2, rfl, k1, k2⟩ := h
    unfold setAt at hs
    split at hs
    · rename_i z hz
      cases hs
      obtain ⟨h1, h2⟩ := setAt_rd (t := b) (path := r) k2 hz hy
      refine ⟨h1, ?_⟩
      have e : splice (c1 ++ c2) (offAt (.pair a b) (.right :: r)) us = c1 ++ splice c2 (offAt b r) us := by
        show splice (c1 ++ c2) (a.size + offAt b r) us = _
        rw [← k1.len]
        exact splice_right
      rw [e]
      unfold Rd
      exact ⟨_, _, rfl, k1, h2⟩
    · cases hs
  | .arr n e, .at i :: r, x, x', cs, us, u, y, h, hs, hy => by
    unfold Rd at h
    obtain ⟨k1, k2, k3⟩ := h
    unfold setAt at hs
    split at hs
    · rename_i z hz
      split at hs
      · rename_i z' hz'
        cases hs
        obtain ⟨i0, i1, i2⟩ := idx_some' hz
        obtain ⟨vs, m1, m2⟩ := k3 i.toNat z i1
        obtain ⟨h1, h2⟩ := setAt_rd (t := e) (path := r) m1 hz' hy
        have hle := off_le h1
        have hty : tyAt (.arr n e) (.at i :: r) = some u := by
          show (if 0 ≤ i ∧ i.toNat < n then tyAt e r else none) = _
          rw [if_pos ⟨i0, k1 ▸ i2⟩]; exact h1
        refine ⟨hty, ?_⟩
        have hle2 := off_le hty
        unfold Rd
        refine ⟨by rw [List.length_set]; exact k1, ?_, row_splice (e := e) k3 (by rw [k1]; exact k2) i1 m1 m2 h2 (by rw [hy.len]; exact hle)⟩
        rw [splice_len]
        · exact k2
        · rw [hy.len, k2]; exact hle2
      · cases hs
    · cases hs
  | .int _, .enter :: _, _, _, _, _, _, _, _, h, _ => by cases h
  | .int _, .left :: _, _, _, _, _, _, _, _, h, _ => by cases h
  | .int _, .right :: _, _, _, _, _, _, _, _, h, _ => by cases h
  | .int _, .at _ :: _, _, _, _, _, _, _, _, h, _ => by cases h
  | .bool, .enter :: _, _, _, _, _, _, _, _, h, _ => by cases h
  | .bool, .left :: _, _, _, _, _, _, _, _, h, _ => by cases h
  | .bool, .right :: _, _, _, _, _, _, _, _, h, _ => by cases h
  | .bool, .at _ :: _, _, _, _, _, _, _, _, h, _ => by cases h
  | .str, .enter :: _, _, _, _, _, _, _, _, h, _ => by cases h
  | .str, .left :: _, _, _, _, _, _, _, _, h, _ => by cases h
  | .str, .right :: _, _, _, _, _, _, _, _, h, _ => by cases h
  | .str, .at _ :: _, _, _, _, _, _, _, _, h, _ => by cases h
  | .err _ _, .enter :: _, _, _, _, _, _, _, _, h, _ => by cases h
  | .err _ _, .left :: _, _, _, _, _, _, _, _, h, _ => by cases h
  | .err _ _, .right :: _, _, _, _, _, _, _, _, h, _ => by cases h
  | .err _ _, .at _ :: _, _, _, _, _, _, _, _, h, _ => by cases h
  | .eno _, .enter :: _, _, _, _, _, _, _, _, h, _ => by cases h
  | .eno _, .left :: _, _, _, _, _, _, _, _, h, _ => by cases h
  | .eno _, .right :: _, _, _, _, _, _, _, _, h, _ => by cases h
  | .eno _, .at _ :: _, _, _, _, _, _, _, _, h, _ => by cases h
  | .arr _ _, .enter :: _, _, _, _, _, _, _, _, h, _ => by cases h
  | .arr _ _, .left :: _, _, _, _, _, _, _, _, h, _ => by cases h
  | .arr _ _, .right :: _, _, _, _, _, _, _, _, h, _ => by cases h
  | .sl _, .enter :: _, _, _, _, _, _, _, _, h, _ => by cases h
  | .sl _, .left :: _, _, _, _, _, _, _, _, h, _ => by cases h
  | .sl _, .right :: _, _, _, _, _, _, _, _, h, _ => by cases h
  | .sl _, .at _ :: _, _, _, _, _, _, _, _, h, _ => by cases h
  | .ptr _, .enter :: _, _, _, _, _, _, _, _, h, _ => by cases h
  | .fn _ _, .enter :: _, _, _, _, _, _, _, _, h, _ => by cases h
  | .hole, .enter :: _, _, _, _, _, _, _, _, h, _ => by cases h
  | .ptr _, .left :: _, _, _, _, _, _, _, _, h, _ => by cases h
  | .fn _ _, .left :: _, _, _, _, _, _, _, _, h, _ => by cases h
  | .hole, .left :: _, _, _, _, _, _, _, _, h, _ => by cases h
  | .ptr _, .right :: _, _, _, _, _, _, _, _, h, _ => by cases h
  | .fn _ _, .right :: _, _, _, _, _, _, _, _, h, _ => by cases h
  | .hole, .right :: _, _, _, _, _, _, _, _, h, _ => by cases h
  | .ptr _, .at _ :: _, _, _, _, _, _, _, _, h, _ => by cases h
  | .fn _ _, .at _ :: _, _, _, _, _, _, _, _, h, _ => by cases h
  | .hole, .at _ :: _, _, _, _, _, _, _, _, h, _ => by cases h
  | .st _, .left :: _, _, _, _, _, _, _, _, h, _ => by cases h
  | .st _, .right :: _, _, _, _, _, _, _, _, h, _ => by cases h
  | .st _, .at _ :: _, _, _, _, _, _, _, _, h, _ => by cases h
  | .pair _ _, .enter :: _, _, _, _, _, _, _, _, h, _ => by cases h
  | .pair _ _, .at _ :: _, _, _, _, _, _, _, _, h, _ => by cases h
theorem row_set {S : Nat → Prop} {e : Ty} {xs : List e.I} {cs us : List Value} (h : RowRd w S e xs cs) (hl : cs.length = xs.length * e.size) {i : Nat} {x x' : e.I} (hi : xs[i]? = some x) {path : List Step} {u : Ty} {y : u.I}
    (hs : setAt e path x u y = some x') (hy : Rd w S u y us) : RowRd w S e (xs.set i x') (splice cs (i * e.size + offAt e path) us) := by
  obtain ⟨vs, k1, k2⟩ := h i x hi
  obtain ⟨k3, k4⟩ := setAt_rd k1 hs hy
  have hle := off_le k3
  exact row_splice h hl hi k1 k2 k4 (by rw [hy.len]; exact hle)
end Go.Proofs.YtnldcpanpojeiaaGreatDoor
