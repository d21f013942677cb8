/-
  How the relation between the reading's states and the program's own is kept: a slot is set; a new object; an object's contents turn; an object is frozen.
-/
import Derived.Test.YtnldcpanpojeiaaGreatDoorEvInv
namespace Go.Proofs.YtnldcpanpojeiaaGreatDoor
open Go.RowKit
theorem nbeq {a b : Nat} : Nat.beq a b = true ↔ a = b := by rw [Nat.beq_eq]
theorem olook_cons {α : Type} {g tag : Nat} {o : α} {l : List (Nat × α)} : olook g ((tag, o) :: l) = if tag = g then some o else olook g l := by
  show (if Nat.beq tag g = true then some o else olook g l) = _
  by_cases h : tag = g
  · rw [if_pos h, if_pos (nbeq.2 h)]
  · rw [if_neg h, if_neg (by rw [nbeq]; exact h)]
theorem odrop_cons {α : Type} {tag k : Nat} {o : α} {l : List (Nat × α)} : odrop tag ((k, o) :: l) = if k = tag then odrop tag l else (k, o) :: odrop tag l := by
  show (if Nat.beq k tag = true then odrop tag l else (k, o) :: odrop tag l) = _
  by_cases h : k = tag
  · rw [if_pos h, if_pos (nbeq.2 h)]
  · rw [if_neg h, if_neg (by rw [nbeq]; exact h)]
theorem olook_drop_ne {α : Type} {g tag : Nat} (h : g ≠ tag) : ∀ l : List (Nat × α), olook g (odrop tag l) = olook g l
  | [] => rfl
  | (k, o) :: r => by
    rw [odrop_cons, olook_cons]
    by_cases hk : k = tag
    · subst hk
      rw [if_pos rfl, olook_drop_ne h r, if_neg (fun e => h e.symm)]
    · rw [if_neg hk, olook_cons, olook_drop_ne h r]
theorem olook_drop {α : Type} {tag : Nat} : ∀ l : List (Nat × α), olook tag (odrop tag l) = none
  | [] => rfl
  | (k, o) :: r => by
    rw [odrop_cons]
    by_cases hk : k = tag
    · rw [if_pos hk]; exact olook_drop r
    · rw [if_neg hk, olook_cons, if_neg hk]; exact olook_drop r
theorem olook_new {g tag : Nat} {o p : Obj} {l : List (Nat × Obj)} (h : olook g ((tag, o) :: odrop tag l) = some p) : (g = tag ∧ p = o) ∨ (g ≠ tag ∧ olook g l = some p) := by
  rw [olook_cons] at h
  by_cases e : tag = g
  · rw [if_pos e] at h; cases h; exact .inl ⟨e.symm, rfl⟩
  · rw [if_neg e, olook_drop_ne (fun x => e x.symm)] at h; exact .inr ⟨fun x => e x.symm, h⟩
theorem WinRd.grow {w w' : World} {S S' : Nat → Prop} {X : Lnt} {o : Obj} (h : WinRd w S X o) (hz : w.heap.size ≤ w'.heap.size) (hS : ∀ b, b < w.heap.size → S' b → S b) (hb : ∀ b, b < w.heap.size → ¬ S b → w'.heap[b]? = w.heap[b]?) (hx : ∀ b, X.v.ownBlock = some b → w'.heap[b]? = w.heap[b]?) : WinRd w' S' X o := by
  obtain ⟨cs, h1, h2, h3⟩ := h
  refine ⟨cs, h1, h2.keep hz hS hb, ?_⟩
  rcases h3 with h3 | ⟨b, cap, cur, k1, k2, k3, k4, k5⟩
  · exact .inl h3
  · exact .inr ⟨b, cap, cur, k1, k2, k3, by rw [hx b (by rw [k1]; rfl)]; exact k4, k5⟩
def upd (ν : Nat → Value) (tag : Nat) (v : Value) (g : Nat) : Value := if g = tag then v else ν g
theorem upd_same {ν : Nat → Value} {tag : Nat} {v : Value} : upd ν tag v tag = v := by simp [upd]
theorem upd_ne {ν : Nat → Value} {tag g : Nat} {v : Value} (h : g ≠ tag) : upd ν tag v g = ν g := by simp [upd, h]
variable {B : Nat} {X : Lnt} {w0 w w' : World} {S S' : Nat → Prop} {ν : Nat → Value} {st : St} {tmps : Array Value}
theorem SlotRd.of1 {objs : List (Nat × Obj)} {s : Slot} {v : Value} (h : Slot1Rd B X w S ν objs s v) (hs : ∀ ss, s ≠ .tup ss) : SlotRd B X w S ν objs s v := by
  cases s <;> first | exact h | exact absurd rfl (hs _)
theorem SlotRd.to1 {objs : List (Nat × Obj)} {s : Slot} {v : Value} (h : SlotRd B X w S ν objs s v) : Slot1Rd B X w S ν objs s v := by
  cases s <;> first | exact h | trivial
theorem SlotRd.map {objs objs' : List (Nat × Obj)} {ν' : Nat → Value} {f1 f : Slot → Slot} (hf : ∀ ss, f (.tup ss) = .tup (ss.map f1)) (hg : ∀ s, (∀ ss, s ≠ .tup ss) → f s = f1 s)
    (hn : ∀ s, (∀ ss, s ≠ .tup ss) → ∀ ss, f1 s ≠ .tup ss)
    (h1 : ∀ s v, Slot1Rd B X w S ν objs s v → Slot1Rd B X w' S' ν' objs' (f1 s) v) {s : Slot} {v : Value} (h : SlotRd B X w S ν objs s v) : SlotRd B X w' S' ν' objs' (f s) v := by
  have hnt : ∀ s : Slot, (∀ ss, s ≠ .tup ss) → SlotRd B X w S ν objs s v → SlotRd B X w' S' ν' objs' (f s) v := fun s hs h => by
    rw [hg s hs]; exact SlotRd.of1 (h1 _ _ h.to1) (hn _ hs)
  cases s with
  | tup ss =>
    rw [hf]
    obtain ⟨vs, hv, hl, hc⟩ := h
    refine ⟨vs, hv, by simpa using hl, fun i s hs => ?_⟩
    rw [List.getElem?_map] at hs
    cases hi : ss[i]? with
    | none => rw [hi] at hs; cases hs
    | some u =>
      rw [hi] at hs
      cases hs
      obtain ⟨x, hx, hr⟩ := hc i u hi
      exact ⟨x, hx, h1 _ _ hr⟩
  | _ => exact hnt _ (fun ss e => by cases e) h
theorem mem_dropH {tag : Nat} {h : Hole} : ∀ {l : List Hole}, h ∈ dropH tag l → h ∈ l ∧ h.box ≠ some tag ∧ h.row ≠ tag
  | [], hm => by cases hm
  | k :: r, hm => by
    unfold dropH at hm
    split at hm
    · obtain ⟨h1, h2⟩ := mem_dropH hm
      exact ⟨List.mem_cons_of_mem _ h1, h2⟩
    · rename_i hc
      rcases List.mem_cons.1 hm with e | hm
      · subst e
        refine ⟨List.mem_cons_self, fun e => hc ?_, fun e => hc ?_⟩
        · rw [e]; simp [sameBox]
        · rw [e]; simp
      · obtain ⟨h1, h2⟩ := mem_dropH hm
        exact ⟨List.mem_cons_of_mem _ h1, h2⟩
theorem sameBox_iff {a b : Option Nat} : sameBox a b = true ↔ a = b := by
  cases a <;> cases b <;> simp [sameBox]
theorem mem_dropB {b : Option Nat} {h : Hole} : ∀ {l : List Hole}, h ∈ dropB b l → h ∈ l ∧ h.box ≠ b
  | [], hm => by cases hm
  | k :: r, hm => by
    unfold dropB at hm
    split at hm
    · obtain ⟨h1, h2⟩ := mem_dropB hm
      exact ⟨List.mem_cons_of_mem _ h1, h2⟩
    · rename_i hc
      rcases List.mem_cons.1 hm with e | hm
      · subst e
        exact ⟨List.mem_cons_self, fun e => hc (sameBox_iff.2 e)⟩
      · obtain ⟨h1, h2⟩ := mem_dropB hm
        exact ⟨List.mem_cons_of_mem _ h1, h2⟩
theorem mem_keepH {b : Option Nat} {lo n : Nat} {h : Hole} : ∀ {l : List Hole}, h ∈ keepH b lo n l → h ∈ l ∧ (h.box ≠ b ∨ h.off < lo ∨ lo + n ≤ h.off)
  | [], hm => by cases hm
  | k :: r, hm => by
    unfold keepH at hm
    split at hm
    · obtain ⟨h1, h2⟩ := mem_keepH hm
      exact ⟨List.mem_cons_of_mem _ h1, h2⟩
    · rename_i hc
      rcases List.mem_cons.1 hm with e | hm
      · subst e
        refine ⟨List.mem_cons_self, ?_⟩
        by_cases e : h.box = b
        · right
          rw [sameBox_iff.2 e, Bool.true_and] at hc
          cases h2 : (Nat.blt h.off lo || Nat.ble (lo + n) h.off) with
          | false => rw [h2] at hc; exact absurd rfl hc
          | true => rw [Bool.or_eq_true] at h2; exact h2.imp (fun h => by simpa using h) Nat.le_of_ble_eq_true
        · exact .inl e
      · obtain ⟨h1, h2⟩ := mem_keepH hm
        exact ⟨List.mem_cons_of_mem _ h1, h2⟩
theorem HoleRd.keep {ν' : Nat → Value} {objs objs' : List (Nat × Obj)} {h : Hole} (hd : HoleRd X w ν objs h) (hbk : ∀ b k, BoxAt X ν objs h.box b k → w'.heap[b]? = w.heap[b]?)
    (hbox : ∀ g, h.box = some g → ν' g = ν g ∧ ∀ o, olook g objs = some o → ∃ o', olook g objs' = some o') (hrow : ν' h.row = ν h.row ∧ ∀ p, olook h.row objs = some p → ∃ p', olook h.row objs' = some p') : HoleRd X w' ν' objs' h := by
  obtain ⟨b, k, h1, h2, p, h3⟩ := hd
  refine ⟨b, k, ?_, ?_, hrow.2 p h3⟩
  · cases hb : h.box with
    | none => rw [hb] at h1; exact h1
    | some g =>
      rw [hb] at h1
      obtain ⟨⟨o, ho⟩, hv, hk⟩ := h1
      obtain ⟨e1, e2⟩ := hbox g hb
      exact ⟨e2 o ho, by rw [e1]; exact hv, hk⟩
  · rw [hrow.1, ← h2]
    exact World.cell?_of_block (hbk b k h1)
theorem Inv.set (h : Inv B X w0 S ν st tmps w) {s : Slot} {v : Value} (hs : SlotRd B X w S ν st.objs s v) (d : Nat) : Inv B X w0 S ν (st.set d s) (tmps.setIfInBounds d v) w := by
  refine ⟨h.fr, h.base, by simpa [St.set] using h.len, fun i u hi => ?_, h.obj, h.own, h.lt, h.win, h.lx2, h.lm, h.nw, h.hole, h.sep⟩
  simp only [St.set] at hi
  rw [List.getElem?_set] at hi
  by_cases e : d = i
  · subst e
    rw [if_pos rfl] at hi
    split at hi
    · rename_i hlt
      cases hi
      exact ⟨v, by rw [Array.getElem?_setIfInBounds_self_of_lt (by rw [← h.len]; exact hlt)], hs⟩
    · cases hi
  · rw [if_neg e] at hi
    obtain ⟨x, hx, hr⟩ := h.slot i u hi
    exact ⟨x, by rw [Array.getElem?_setIfInBounds_ne e]; exact hx, hr⟩
theorem Inv.put (h : Inv B X w0 S ν st tmps w) {s : Slot} {v : Value} (hs : SlotRd B X w S ν st.objs s v) (d : Option Tmp) (ds : List Deferred) :
    Inv B X w0 S ν (st.put d s) (Act.put ⟨tmps, ds⟩ d v).tmps w := by
  cases d with
  | none => exact h
  | some d => exact h.set hs d
theorem Inv.get (h : Inv B X w0 S ν st tmps w) (i : Nat) : ∃ v, tmps.getD i undef = v ∧ SlotRd B X w S ν st.objs (st.get i) v := by
  refine ⟨_, rfl, ?_⟩
  unfold St.get
  cases hi : st.env[i]? with
  | none => trivial
  | some s =>
    obtain ⟨v, hv, hr⟩ := h.slot i s hi
    rw [Array.getD_eq_getD_getElem?, hv]
    exact hr
theorem hasRow_mem {tag : Nat} {q : Nat × Nat} : ∀ {l : List (Nat × Nat)}, q ∈ l → q.2 = tag → hasRow tag l = true
  | [], h, _ => by cases h
  | k :: r, h, e => by
    unfold hasRow
    rw [Bool.or_eq_true]
    rcases List.mem_cons.1 h with h | h
    · subst h; exact .inl (nbeq.2 e)
    · exact .inr (hasRow_mem h e)
theorem BoxAt.some_blk {objs : List (Nat × Obj)} {g b k : Nat} (h : BoxAt X ν objs (some g) b k) : (∃ o, olook g objs = some o) ∧ (ν g).ownBlock = some b := by
  obtain ⟨h1, ⟨n, cap, h2⟩, _⟩ := h
  exact ⟨h1, by rw [h2]; rfl⟩
theorem BoxAt.none_blk {objs : List (Nat × Obj)} {b k : Nat} (h : BoxAt X ν objs none b k) : X.v.ownBlock = some b := by
  obtain ⟨⟨n, cap, h2⟩, _⟩ := h
  rw [h2]; rfl
theorem Slot1Rd.new {tag : Nat} {o : Obj} {v' : Value} {r : Option Nat} (own : ∀ g o b, olook g st.objs = some o → (ν g).ownBlock = some b → S b)
    (sep : ∀ g h o p b, olook g st.objs = some o → olook h st.objs = some p → (ν g).ownBlock = some b → (ν h).ownBlock = some b → g = h)
    (hg : w.grownBy w' r) (hr : ∀ b, r = some b → (ν tag).ownBlock = some b ∧ ∃ o, olook tag st.objs = some o) (hv : ∀ b, v'.ownBlock = some b → r = some b ∨ w.heap.size ≤ b) (hx : ∀ b, r = some b → X.v.ownBlock ≠ some b)
    {s : Slot} {v : Value} (h : Slot1Rd B X w S ν st.objs s v) :
    Slot1Rd B X w' (fun b => S b ∨ v'.ownBlock = some b) (upd ν tag v') ((tag, o) :: odrop tag st.objs) (s.poison1 tag) v := by
  have hS : ∀ b, b < w.heap.size → (S b ∨ v'.ownBlock = some b) → S b := by
    intro b hb hs
    rcases hs with hs | hs
    · exact hs
    · rcases hv b hs with e | e
      · obtain ⟨h1, o, h2⟩ := hr b e
        exact own tag o b h2 h1
      · omega
  have hAv : ∀ fr b, b < w.heap.size → Av (fun b => S b ∨ v'.ownBlock = some b) B fr b → Av S B fr b := by
    intro fr b hb hs
    rcases hs with hs | hs
    · exact .inl (hS b hb hs)
    · exact .inr hs
  have hB : ∀ b, b < w.heap.size → ¬ S b → w'.heap[b]? = w.heap[b]? := by
    intro b hb hs
    refine hg.block b hb fun e => hs ?_
    obtain ⟨h1, o, h2⟩ := hr b e.symm
    exact own tag o b h2 h1
  have hBA : ∀ fr b, b < w.heap.size → ¬ Av S B fr b → w'.heap[b]? = w.heap[b]? := fun fr b hb hs => hB b hb fun e => hs (.inl e)
  have hlook : ∀ g, g ≠ tag → olook g ((tag, o) :: odrop tag st.objs) = olook g st.objs := by
    intro g hne
    rw [olook_cons, if_neg (fun e => hne e.symm), olook_drop_ne hne]
  cases s with
  | undef => trivial
  | skip => exact h
  | lit b => exact h
  | val fr t x => exact RdV.keep hg.size (hAv fr) (hBA fr) h
  | nil => exact h
  | nili => exact h
  | nilp => exact h
  | hv t x rows =>
    show Slot1Rd _ _ _ _ _ _ (if hasRow tag rows = true then .undef else .hv t x rows) v
    by_cases e : hasRow tag rows = true
    · rw [if_pos e]; trivial
    · rw [if_neg e]
      refine ⟨h.1, h.2.1.flat h.1, fun q hq => ?_⟩
      have hne : q.2 ≠ tag := fun e' => e (hasRow_mem hq e')
      obtain ⟨h1, o', h2⟩ := h.2.2 q hq
      exact ⟨by rw [upd_ne hne]; exact h1, o', by rw [hlook _ hne]; exact h2⟩
  | lenof _ => exact h
  | nn fr e xs => exact ⟨RdV.keep hg.size (hAv fr) (hBA fr) h.1, h.2⟩
  | ref g =>
    show Slot1Rd _ _ _ _ _ _ (if Nat.beq g tag = true then .undef else .ref g) v
    by_cases e : g = tag
    · rw [if_pos (nbeq.2 e)]; trivial
    · rw [if_neg (by rw [nbeq]; exact e)]
      obtain ⟨h1, o', h2⟩ := h
      exact ⟨by rw [upd_ne e]; exact h1, o', by rw [hlook g e]; exact h2⟩
  | eptr g i path t snap =>
    show Slot1Rd _ _ _ _ _ _ (if Nat.beq g tag = true then .undef else .eptr g i path t snap) v
    by_cases e : g = tag
    · rw [if_pos (nbeq.2 e)]; trivial
    · rw [if_neg (by rw [nbeq]; exact e)]
      obtain ⟨o', b, n, cap, el, h1, h2, h3⟩ := h
      exact ⟨o', b, n, cap, el, by rw [hlook g e]; exact h1, by rw [upd_ne e]; exact h2, h3⟩
  | cptr fr t x =>
    obtain ⟨ad, h1, h2, h3, us, h4, h5⟩ := h
    exact ⟨ad, h1, fun e => h2 (hAv fr _ h3 e), Nat.lt_of_lt_of_le h3 hg.size, us, h4.keep hg.size (hAv fr) (hBA fr), fun i u hi => (cell_keep _ (hBA fr _ h3 h2)).trans (h5 i u hi)⟩
  | lref => exact h
  | leptr i e p t => exact h
  | lview lo e xs =>
    refine ⟨RdV.keep hg.size (fun b hb hs => ⟨hS b hb hs.1, hs.2⟩) (fun b hb hs => ?_) h.1, h.2⟩
    refine hg.block b hb fun er => hs ⟨?_, hx b er.symm⟩
    obtain ⟨k1, o2, k2⟩ := hr b er.symm
    exact own tag o2 b k2 k1
  | view g lo fr e xs =>
    show Slot1Rd _ _ _ _ _ _ (if Nat.beq g tag = true then .undef else .view g lo fr e xs) v
    by_cases e : g = tag
    · rw [if_pos (nbeq.2 e)]; trivial
    · rw [if_neg (by rw [nbeq]; exact e)]
      obtain ⟨⟨o', h1⟩, h2, h3⟩ := h
      refine ⟨⟨o', by rw [hlook g e]; exact h1⟩, RdV.keep hg.size ?_ ?_ h2, by rw [upd_ne e]; exact h3⟩
      · intro b hb hs
        rw [upd_ne e] at hs
        exact ⟨hS b hb hs.1, hs.2⟩
      · intro b hb hs
        refine hg.block b hb fun er => ?_
        obtain ⟨k1, o2, k2⟩ := hr b er.symm
        by_cases hn : (ν g).ownBlock = some b
        · exact e (sep g tag o' o2 b h1 k2 hn k1)
        · exact hs ⟨own tag o2 b k2 k1, hn⟩
  | tup ss => trivial
theorem poison1_tup (tag : Nat) (s : Slot) (ss : List Slot) : s.poison1 tag ≠ .tup ss := by
  cases s <;> simp only [Slot.poison1] <;> (try split) <;> simp
theorem stale1_tup (tag : Nat) (s : Slot) (ss : List Slot) : s.stale1 tag ≠ .tup ss := by
  cases s <;> simp only [Slot.stale1] <;> (try split) <;> simp
theorem thaw1_tup (tag : Nat) (o : Obj) (s : Slot) (ss : List Slot) : s.thaw1 tag o ≠ .tup ss := by
  cases s <;> simp only [Slot.thaw1] <;> (try split) <;> simp
theorem Inv.new (h : Inv B X w0 S ν st tmps w) {tag : Nat} {o : Obj} {v' : Value} {r : Option Nat} (hg : w.grownBy w' r)
    (hr : ∀ b, r = some b → (ν tag).ownBlock = some b ∧ ∃ o, olook tag st.objs = some o) (hv : ∀ b, v'.ownBlock = some b → r = some b ∨ w.heap.size ≤ b)
    (ho : ObjRd B w' (fun b => S b ∨ v'.ownBlock = some b) v' o) :
    Inv B X w0 (fun b => S b ∨ v'.ownBlock = some b) (upd ν tag v') (st.new tag o) tmps w' := by
  have hbase := h.base.1
  have hsz := h.fr.size
  have hxr : ∀ b, r = some b → X.v.ownBlock ≠ some b := fun b e hxb => by
    obtain ⟨h1, o, h2⟩ := hr b e
    rcases h.nw tag o b h2 h1 with h3 | ⟨_, h3⟩
    · have := (h.lx b hxb).2
      omega
    · exact (h.lm b h3).2.2 hxb
  have hrB : ∀ b, r = some b → B ≤ b ∨ (X.more b ∧ X.v.ownBlock ≠ some b) := by
    intro b e
    obtain ⟨h1, o, h2⟩ := hr b e
    rcases h.nw tag o b h2 h1 with h3 | ⟨_, h3⟩
    · exact .inl h3
    · exact .inr ⟨h3, hxr b e⟩
  have hwb : ∀ b, b < w.heap.size → (S b ∨ v'.ownBlock = some b) → S b := by
    intro b hb hs
    rcases hs with hs | hs
    · exact hs
    · rcases hv b hs with e | e
      · obtain ⟨h1, o, h2⟩ := hr b e
        exact h.own tag o b h2 h1
      · omega
  refine ⟨h.fr.grown hg (by omega) hrB (fun b hb => (h.lx b hb).2), h.base, by simpa [St.new] using h.len, ?_, ?_, ?_, ?_, ?_, ⟨fun b hb => ⟨.inl (h.lx b hb).1, (h.lx b hb).2⟩, fun b hb => ⟨.inl (h.la b hb).1, (h.la b hb).2⟩⟩, fun b hb => ⟨.inl (h.lm b hb).1, (h.lm b hb).2⟩, ?_, ?_, ?_⟩
  · intro i s hi
    simp only [St.new, List.getElem?_map] at hi
    cases hu : st.env[i]? with
    | none => rw [hu] at hi; cases hi
    | some u =>
      rw [hu] at hi
      cases hi
      obtain ⟨x, hx, hrd⟩ := h.slot i u hu
      refine ⟨x, hx, SlotRd.map (f1 := Slot.poison1 tag) (fun _ => rfl) (fun s hs => ?_) (fun s _ ss => poison1_tup tag s ss) (fun s v hsv => Slot1Rd.new h.own h.sep hg hr hv hxr hsv) hrd⟩
      cases s <;> first | rfl | exact absurd rfl (hs _)
  · intro g p hp
    rcases olook_new hp with ⟨rfl, rfl⟩ | ⟨hne, hp⟩
    · rw [upd_same]; exact ho
    · rw [upd_ne hne]
      obtain ⟨cs, h1, h2⟩ := h.obj g p hp
      refine ⟨cs, h1.kept hg ?_, h2.keep hg.size ?_ ?_⟩
      · cases hb : (ν g).ownBlock with
        | none => exact .inl rfl
        | some b =>
          refine .inr fun e => ?_
          obtain ⟨k1, o2, k2⟩ := hr b e.symm
          exact hne (h.sep g tag p o2 b hp k2 hb k1)
      · intro b hb hs
        rcases hs with (hs | hs) | hs
        · exact .inl hs
        · rcases hv b hs with e | e
          · obtain ⟨k1, o2, k2⟩ := hr b e
            exact .inl (h.own tag o2 b k2 k1)
          · omega
        · exact .inr hs
      · intro b hb hs
        refine hg.block b hb fun e => hs ?_
        obtain ⟨k1, o2, k2⟩ := hr b e.symm
        exact .inl (h.own tag o2 b k2 k1)
  · intro g p b hp hb
    rcases olook_new hp with ⟨rfl, rfl⟩ | ⟨hne, hp⟩
    · rw [upd_same] at hb; exact .inr hb
    · rw [upd_ne hne] at hb; exact .inl (h.own g p b hp hb)
  · rintro b (hb | hb)
    · exact Nat.lt_of_lt_of_le (h.lt b hb) hg.size
    · obtain ⟨cs, h3, _⟩ := ho
      exact (h3.lt b hb).2
  · intro o hlo
    exact (h.win o hlo).grow hg.size (fun b hb hs => hs.imp (hwb b hb) id) (fun b hb hs => hg.block b hb fun e => hs (by
      obtain ⟨k1, o2, k2⟩ := hr b e.symm
      exact .inl (h.own tag o2 b k2 k1))) (fun b hb => by
      have := (h.lx b hb).2
      exact hg.block b (by omega) fun e => hxr b e.symm hb)
  · intro g p b hp hb
    rcases olook_new hp with ⟨rfl, rfl⟩ | ⟨hne, hp⟩
    · rw [upd_same] at hb
      rcases hv b hb with e | e
      · obtain ⟨k1, o2, k2⟩ := hr b e
        exact h.nw _ o2 b k2 k1
      · exact .inl (by omega)
    · rw [upd_ne hne] at hb; exact h.nw g p b hp hb
  · intro q hq
    obtain ⟨hq, hq1, hq2⟩ := mem_dropH hq
    have hlk : ∀ g, g ≠ tag → ∀ p, olook g st.objs = some p → ∃ p', olook g (st.new tag o).objs = some p' := fun g hne p hp => ⟨p, by
      show olook g ((tag, o) :: odrop tag st.objs) = some p
      rw [olook_cons, if_neg (fun e => hne e.symm), olook_drop_ne hne]; exact hp⟩
    refine (h.hole q hq).keep (fun b k hbx => ?_) (fun g hg' => ?_) ⟨upd_ne hq2, hlk _ hq2⟩
    · cases hbo : q.box with
      | none =>
        rw [hbo] at hbx
        have hxb := hbx.none_blk
        have := (h.lx b hxb).2
        exact hg.block b (by omega) fun e => hxr b e.symm hxb
      | some g =>
        rw [hbo] at hbx
        obtain ⟨⟨p, hp⟩, hb⟩ := hbx.some_blk
        refine hg.block b (h.lt b (h.own g p b hp hb)) fun e => ?_
        obtain ⟨k1, o2, k2⟩ := hr b e.symm
        have := h.sep g tag p o2 b hp k2 hb k1
        exact hq1 (by rw [hbo, this])
    · have hne : g ≠ tag := fun e => hq1 (by rw [hg', e])
      exact ⟨upd_ne hne, hlk g hne⟩
  · have key : ∀ g p b, g ≠ tag → olook g st.objs = some p → (ν g).ownBlock = some b → v'.ownBlock = some b → False := by
      intro g p b hne hp hb hb'
      rcases hv b hb' with e | e
      · obtain ⟨k1, o2, k2⟩ := hr b e
        exact hne (h.sep g tag p o2 b hp k2 hb k1)
      · obtain ⟨cs, h1, _⟩ := h.obj g p hp
        have := (h1.lt b hb).2
        omega
    intro g k p q b hp hq hb hb'
    rcases olook_new hp with ⟨hg1, _⟩ | ⟨hne, hp1⟩ <;> rcases olook_new hq with ⟨hk1, _⟩ | ⟨hne', hq1⟩
    · rw [hg1, hk1]
    · rw [hg1, upd_same] at hb; rw [upd_ne hne'] at hb'; exact (key k q b hne' hq1 hb' hb).elim
    · rw [hk1, upd_same] at hb'; rw [upd_ne hne] at hb; exact (key g p b hne hp1 hb hb').elim
    · rw [upd_ne hne] at hb; rw [upd_ne hne'] at hb'; exact h.sep g k p q b hp1 hq1 hb hb'
theorem Inv.box_lt (h : Inv B X w0 S ν st tmps w) {bo : Option Nat} {b k : Nat} (hb : BoxAt X ν st.objs bo b k) : S b ∧ b < w.heap.size := by
  cases bo with
  | none =>
    have := (h.lx b hb.none_blk).1
    exact ⟨this, h.lt b this⟩
  | some g =>
    obtain ⟨⟨p, hp⟩, hg⟩ := hb.some_blk
    have := h.own g p b hp hg
    exact ⟨this, h.lt b this⟩
end Go.Proofs.YtnldcpanpojeiaaGreatDoor
