/-
  The relation is kept: the world grows by new blocks alone; an object's contents turn in place; an object is frozen; what is known of a bool is kept.
-/
import Derived.Test.YtnldcpanpojeiaaGreatDoorEvStep
namespace Go.Proofs.YtnldcpanpojeiaaGreatDoor
open Go.RowKit
variable {B : Nat} {X : Lnt} {w0 w w' : World} {S S' : Nat → Prop} {ν : Nat → Value} {st : St} {tmps : Array Value}
theorem ObjRd.val {hv : Value} {o : Obj} {S0 : Nat → Prop} (h : ObjRd B w S hv o) (h0 : ∀ b, b < w.heap.size → S0 b → Av S B o.fr b ∧ hv.ownBlock ≠ some b) : RdV w S0 (.sl o.e) o.xs hv := by
  obtain ⟨cs, hown, hrow⟩ := h
  have hcells := @World.ownsRow.cells _ _ _ _ _ _ _ hown
  have hlt := hown.lt
  rcases hown.2 with ⟨rfl, hn⟩ | ⟨g, cap, cur, rfl, hbg, hblk, hnc, _, _, _⟩
  · refine ⟨[.slice none 0 0], ?_, rfl⟩
    unfold Rd
    have hx : o.xs = [] := List.eq_nil_of_length_eq_zero hn
    rw [hx]
    exact ⟨none, 0, rfl, Nat.le_refl _, fun _ => rfl, fun j x hj => by simp at hj⟩
  · refine ⟨[.slice (some ⟨g, 0, none⟩) o.xs.length cap], ?_, rfl⟩
    unfold Rd
    refine ⟨_, _, rfl, hnc, (fun e => by cases e), fun j x hj => ?_⟩
    obtain ⟨us, h1, h2⟩ := hrow j x hj
    refine ⟨_, rfl, fun hs => (h0 g (hlt g rfl).2 hs).2 rfl, (hlt g rfl).2, us, h1.keep (Nat.le_refl _) (fun b hb hs => (h0 b hb hs).1) (fun _ _ _ => rfl), fun i u hi => ?_⟩
    exact hcells rfl _ _ (h2 i u hi)
theorem Slot1Rd.mono {ν' : Nat → Value} {objs objs' : List (Nat × Obj)} (hg : w.grownBy w' none) (hS : ∀ b, b < w.heap.size → S' b → S b) {s : Slot} {v : Value}
    (h : Slot1Rd B X w S ν objs s v) (ho : ∀ g, (∃ t, s = .ref g ∨ (∃ i p q r, s = .eptr g i p q r) ∨ (∃ a b c d, s = .view g a b c d) ∧ t = 0) → olook g objs' = olook g objs ∧ ν' g = ν g)
    (hh : (∀ t x rows, s ≠ .hv t x rows) ∨ (∀ g, ν' g = ν g ∧ ∀ o, olook g objs = some o → ∃ o', olook g objs' = some o') := by first | (left; intro _ _ _ e; cases e; done) | (right; exact fun g => ⟨rfl, fun o h => ⟨o, h⟩⟩)) : Slot1Rd B X w' S' ν' objs' s v := by
  have hb : ∀ b, b < w.heap.size → w'.heap[b]? = w.heap[b]? := fun b h => hg.block b h (by simp)
  have hAv : ∀ fr b, b < w.heap.size → Av S' B fr b → Av S B fr b := fun fr b h hs => hs.imp (hS b h) id
  cases s with
  | undef => trivial
  | skip => exact h
  | lit b => exact h
  | val fr t x => exact RdV.keep hg.size (hAv fr) (fun b h _ => hb b h) h
  | nil => exact h
  | nili => exact h
  | nilp => exact h
  | hv t x rows =>
    rcases hh with hh | hh
    · exact absurd rfl (hh t x rows)
    · refine ⟨h.1, h.2.1.flat h.1, fun q hq => ?_⟩
      obtain ⟨h1, o, h2⟩ := h.2.2 q hq
      exact ⟨by rw [(hh q.2).1]; exact h1, (hh q.2).2 o h2⟩
  | lenof _ => exact h
  | nn fr e xs => exact ⟨RdV.keep hg.size (hAv fr) (fun b h _ => hb b h) h.1, h.2⟩
  | ref g =>
    obtain ⟨e1, e2⟩ := ho g ⟨0, .inl rfl⟩
    obtain ⟨h1, o, h2⟩ := h
    exact ⟨by rw [e2]; exact h1, o, by rw [e1]; exact h2⟩
  | eptr g i path t snap =>
    obtain ⟨e1, e2⟩ := ho g ⟨0, .inr (.inl ⟨_, _, _, _, rfl⟩)⟩
    obtain ⟨o, b, n, cap, el, h1, h2, h3⟩ := h
    exact ⟨o, b, n, cap, el, by rw [e1]; exact h1, by rw [e2]; exact h2, h3⟩
  | cptr fr t x =>
    obtain ⟨ad, h1, h2, h3, us, h4, h5⟩ := h
    exact ⟨ad, h1, fun e => h2 (hAv fr _ h3 e), Nat.lt_of_lt_of_le h3 hg.size, us, h4.keep hg.size (hAv fr) (fun b h _ => hb b h), fun i u hi => (cell_keep _ (hb _ h3)).trans (h5 i u hi)⟩
  | view g lo fr e xs =>
    obtain ⟨e1, e2⟩ := ho g ⟨0, .inr (.inr ⟨⟨_, _, _, _, rfl⟩, rfl⟩)⟩
    obtain ⟨⟨o, h1⟩, h2, h3⟩ := h
    exact ⟨⟨o, by rw [e1]; exact h1⟩, RdV.keep hg.size (fun b h hs => ⟨hS b h hs.1, by rw [← e2]; exact hs.2⟩) (fun b h _ => hb b h) h2, by rw [e2]; exact h3⟩
  | lref => exact h
  | leptr i e p t => exact h
  | lview lo e xs => exact ⟨RdV.keep hg.size (fun b h hs => ⟨hS b h hs.1, hs.2⟩) (fun b h _ => hb b h) h.1, h.2⟩
  | tup ss => trivial
theorem SlotRd.mono (hg : w.grownBy w' none) {s : Slot} {v : Value} {objs : List (Nat × Obj)} (h : SlotRd B X w S ν objs s v) : SlotRd B X w' S ν objs s v := by
  have := SlotRd.map (S' := S) (ν' := ν) (objs' := objs) (w' := w') (f1 := id) (f := id) (fun ss => by simp) (fun _ _ => rfl) (fun s hs ss => hs ss) (fun s v hsv => Slot1Rd.mono hg (fun _ _ h => h) hsv (fun _ _ => ⟨rfl, rfl⟩)) h
  exact this
theorem ObjRd.mono {hv : Value} {o : Obj} (hg : w.grownBy w' none) (hS : ∀ b, b < w.heap.size → S' b → S b) (h : ObjRd B w S hv o) : ObjRd B w' S' hv o := by
  obtain ⟨cs, h1, h2⟩ := h
  refine ⟨cs, h1.kept hg ?_, h2.keep hg.size (fun b hb hs => hs.imp (hS b hb) id) (fun b hb _ => hg.block b hb (by simp))⟩
  cases hv.ownBlock <;> simp
theorem Inv.holeMono (h : Inv B X w0 S ν st tmps w) (hg : w.grownBy w' none) : ∀ q ∈ st.holes, HoleRd X w' ν st.objs q := fun q hq =>
  (h.hole q hq).keep (fun b _ hb => hg.block b (h.box_lt hb).2 (by simp)) (fun _ _ => ⟨rfl, fun o h => ⟨o, h⟩⟩) ⟨rfl, fun o h => ⟨o, h⟩⟩
theorem Inv.holeTurn (h : Inv B X w0 S ν st tmps w) {r : Option Nat} (hg : w.grownBy w' r) {q : Hole} (hq : q ∈ st.holes) (hr : ∀ b k, BoxAt X ν st.objs q.box b k → r ≠ some b) {objs' : List (Nat × Obj)} (ho : ∀ g o, olook g st.objs = some o → ∃ o', olook g objs' = some o') : HoleRd X w' ν objs' q :=
  (h.hole q hq).keep (fun b k hb => hg.block b (h.box_lt hb).2 fun e => hr b k hb e.symm) (fun g _ => ⟨rfl, ho g⟩) ⟨rfl, ho _⟩
theorem Inv.grow (h : Inv B X w0 S ν st tmps w) (hg : w.grownBy w' none) : Inv B X w0 S ν st tmps w' :=
  ⟨h.fr.grown hg (Nat.le_trans h.base.1 h.fr.size) (fun k hk => by cases hk) (fun b hb => (h.lx b hb).2), h.base, h.len, fun i s hi => let ⟨v, h1, h2⟩ := h.slot i s hi; ⟨v, h1, h2.mono hg⟩,
    fun g o ho => (h.obj g o ho).mono hg (fun _ _ h => h), h.own, fun b hb => Nat.lt_of_lt_of_le (h.lt b hb) hg.size,
    fun o ho => (h.win o ho).grow hg.size (fun _ _ h => h) (fun b hb _ => hg.block b hb (by simp)) (fun b hb => hg.block b (h.lt b (h.lx b hb).1) (by simp)), h.lx2, h.lm, h.nw, h.holeMono hg, h.sep⟩
theorem grown_drew : w.grownBy w.drew none := ⟨rfl, rfl, rfl, Nat.le_refl _, fun _ _ _ => rfl⟩
theorem grown_drewN (n : Nat) : w.grownBy (w.drewN n) none := ⟨rfl, rfl, rfl, Nat.le_refl _, fun _ _ _ => rfl⟩
theorem grown_below (h : Below w.heap.size w w') : w.grownBy w' none := ⟨h.os, h.tape, h.output, h.size, fun k hk _ => h.block k hk⟩
theorem Slot1Rd.turn {tag : Nat} {o o' : Obj} (h0 : olook tag st.objs = some o) (he : o'.e = o.e) (hl : o'.xs.length = o.xs.length)
    (own : ∀ g o b, olook g st.objs = some o → (ν g).ownBlock = some b → S b)
    (sep : ∀ g h o p b, olook g st.objs = some o → olook h st.objs = some p → (ν g).ownBlock = some b → (ν h).ownBlock = some b → g = h)
    {r : Option Nat} (hg : w.grownBy w' r) (hr : ∀ b, r = some b → (ν tag).ownBlock = some b) (hx : ∀ b, r = some b → X.v.ownBlock ≠ some b)
    {s : Slot} {v : Value} (h : Slot1Rd B X w S ν st.objs s v) : Slot1Rd B X w' S ν ((tag, o') :: odrop tag st.objs) (s.stale1 tag) v := by
  have hB : ∀ b, b < w.heap.size → ¬ S b → w'.heap[b]? = w.heap[b]? := by
    intro b hb hs
    exact hg.block b hb fun e => hs (own tag o b h0 (hr b e.symm))
  have hBA : ∀ fr b, b < w.heap.size → ¬ Av S B fr b → w'.heap[b]? = w.heap[b]? := fun fr b hb hs => hB b hb fun e => hs (.inl e)
  have hlook : ∀ g, g ≠ tag → olook g ((tag, o') :: odrop tag st.objs) = olook g st.objs := by
    intro g hne
    rw [olook_cons, if_neg (fun e => hne e.symm), olook_drop_ne hne]
  have hself : olook tag ((tag, o') :: odrop tag st.objs) = some o' := by rw [olook_cons, if_pos rfl]
  have hex : ∀ g, (∃ p, olook g st.objs = some p) → ∃ p, olook g ((tag, o') :: odrop tag st.objs) = some p := by
    rintro g ⟨p, hp⟩
    by_cases e : g = tag
    · subst e; exact ⟨o', hself⟩
    · exact ⟨p, by rw [hlook g e]; exact hp⟩
  cases s with
  | undef => trivial
  | skip => exact h
  | lit b => exact h
  | val fr t x => exact RdV.keep hg.size (fun _ _ h => h) (hBA fr) h
  | nil => exact h
  | nili => exact h
  | nilp => exact h
  | hv t x rows =>
    show Slot1Rd _ _ _ _ _ _ (if hasRow tag rows = true then .undef else .hv t x rows) v
    by_cases e : hasRow tag rows = true
    · rw [if_pos e]; trivial
    · rw [if_neg e]
      exact ⟨h.1, h.2.1.flat h.1, fun q hq => ⟨(h.2.2 q hq).1, hex _ (h.2.2 q hq).2⟩⟩
  | lenof _ => exact h
  | nn fr e xs => exact ⟨RdV.keep hg.size (fun _ _ h => h) (hBA fr) h.1, h.2⟩
  | ref g => exact ⟨h.1, hex g h.2⟩
  | eptr g i path t snap =>
    show Slot1Rd _ _ _ _ _ _ (if Nat.beq g tag = true then .eptr g i path t none else .eptr g i path t snap) v
    obtain ⟨o1, b, n, cap, el, h1, h2, h3, h4, h5, h6, h7⟩ := h
    by_cases e : g = tag
    · rw [if_pos (nbeq.2 e)]
      subst e
      rw [h0] at h1
      cases h1
      have hi : i.toNat < o'.xs.length := by
        rw [hl]
        rcases Nat.lt_or_ge i.toNat o.xs.length with h | h
        · exact h
        · rw [List.getElem?_eq_none h] at h5; cases h5
      exact ⟨o', b, n, cap, o'.xs[i.toNat], hself, h2, h3, by rw [he]; exact h4, List.getElem?_eq_getElem hi, by rw [he]; exact h6, fun x hx => by cases hx⟩
    · rw [if_neg (by rw [nbeq]; exact e)]
      exact ⟨o1, b, n, cap, el, by rw [hlook g e]; exact h1, h2, h3, h4, h5, h6, h7⟩
  | cptr fr t x =>
    obtain ⟨ad, h1, h2, h3, us, h4, h5⟩ := h
    exact ⟨ad, h1, h2, Nat.lt_of_lt_of_le h3 hg.size, us, h4.keep hg.size (fun _ _ h => h) (hBA fr), fun i u hi => (cell_keep _ (hBA fr _ h3 h2)).trans (h5 i u hi)⟩
  | lref => exact h
  | leptr i e p t => exact h
  | lview lo e xs => exact ⟨RdV.keep hg.size (fun _ _ h => h) (fun b hb hs => hg.block b hb fun er => hs ⟨own tag o b h0 (hr b er.symm), hx b er.symm⟩) h.1, h.2⟩
  | view g lo fr e xs =>
    show Slot1Rd _ _ _ _ _ _ (if Nat.beq g tag = true then .undef else .view g lo fr e xs) v
    by_cases e : g = tag
    · rw [if_pos (nbeq.2 e)]; trivial
    · rw [if_neg (by rw [nbeq]; exact e)]
      obtain ⟨⟨o1, h1⟩, h2, h3⟩ := h
      refine ⟨hex g ⟨o1, h1⟩, RdV.keep hg.size (fun _ _ h => h) ?_ h2, h3⟩
      intro b hb hs
      refine hg.block b hb fun er => ?_
      have k1 := hr b er.symm
      by_cases hn : (ν g).ownBlock = some b
      · exact e (sep g tag o1 o b h1 h0 hn k1)
      · exact hs ⟨own tag o b h0 k1, hn⟩
  | tup ss => trivial
theorem look_new' {tag : Nat} {o : Obj} {l : List (Nat × Obj)} : olook tag ((tag, o) :: l) = some o := by rw [olook_cons, if_pos rfl]
theorem Inv.rehole (h : Inv B X w0 S ν st tmps w) {hs : List Hole} (hh : ∀ q ∈ hs, HoleRd X w ν st.objs q) : Inv B X w0 S ν { st with holes := hs } tmps w :=
  ⟨h.fr, h.base, h.len, h.slot, h.obj, h.own, h.lt, h.win, h.lx2, h.lm, h.nw, hh, h.sep⟩
theorem Inv.turn (h : Inv B X w0 S ν st tmps w) {tag : Nat} {o o' : Obj} (h0 : olook tag st.objs = some o) (he : o'.e = o.e) (hl : o'.xs.length = o.xs.length)
    {r : Option Nat} (hg : w.grownBy w' r) (hr : ∀ b, r = some b → (ν tag).ownBlock = some b) (ho : ObjRd B w' S (ν tag) o') : Inv B X w0 S ν (st.turn tag o') tmps w' := by
  have hxr : ∀ b, r = some b → X.v.ownBlock ≠ some b := fun b e hxb => by
    rcases h.nw tag o b h0 (hr b e) with h3 | ⟨_, h3⟩
    · have := (h.lx b hxb).2
      omega
    · exact (h.lm b h3).2.2 hxb
  have hrB : ∀ b, r = some b → B ≤ b ∨ (X.more b ∧ X.v.ownBlock ≠ some b) := fun b e => (h.nw tag o b h0 (hr b e)).imp id fun h3 => ⟨h3.2, hxr b e⟩
  have hexs : ∀ g p, olook g st.objs = some p → ∃ p', olook g (st.turn tag o').objs = some p' := by
    intro g p hp
    by_cases e : g = tag
    · subst e; exact ⟨o', look_new'⟩
    · refine ⟨p, ?_⟩
      show olook g ((tag, o') :: odrop tag st.objs) = some p
      rw [olook_cons, if_neg (fun e' => e e'.symm), olook_drop_ne e]; exact hp
  have hblk : ∀ b, b < w.heap.size → ¬ Av S B false b → w'.heap[b]? = w.heap[b]? := fun b hb hs => hg.block b hb fun e => hs (.inl (h.own tag o b h0 (hr b e.symm)))
  refine ⟨h.fr.grown hg (Nat.le_trans h.base.1 h.fr.size) hrB (fun b hb => (h.lx b hb).2), h.base, by simpa [St.turn] using h.len, ?_, ?_, ?_, fun b hb => Nat.lt_of_lt_of_le (h.lt b hb) hg.size,
    fun o ho => (h.win o ho).grow hg.size (fun _ _ h => h) hblk (fun b hb => hg.block b (h.lt b (h.lx b hb).1) fun e => hxr b e.symm hb), h.lx2, h.lm, ?_, ?_, ?_⟩
  · intro i s hi
    simp only [St.turn, List.getElem?_map] at hi
    cases hu : st.env[i]? with
    | none => rw [hu] at hi; cases hi
    | some u =>
      rw [hu] at hi
      cases hi
      obtain ⟨x, hx, hrd⟩ := h.slot i u hu
      refine ⟨x, hx, SlotRd.map (f1 := Slot.stale1 tag) (fun _ => rfl) (fun s hs => ?_) (fun s _ ss => stale1_tup tag s ss) (fun s v hsv => Slot1Rd.turn h0 he hl h.own h.sep hg hr hxr hsv) hrd⟩
      cases s <;> first | rfl | exact absurd rfl (hs _)
  · intro g p hp
    rcases olook_new hp with ⟨rfl, rfl⟩ | ⟨hne, hp⟩
    · exact ho
    · obtain ⟨cs, h1, h2⟩ := h.obj g p hp
      refine ⟨cs, h1.kept hg ?_, h2.keep hg.size (fun _ _ h => h) ?_⟩
      · cases hb : (ν g).ownBlock with
        | none => exact .inl rfl
        | some b => exact .inr fun e => hne (h.sep g tag p o b hp h0 hb (hr b e.symm))
      · intro b hb hs
        exact hg.block b hb fun e => hs (.inl (h.own tag o b h0 (hr b e.symm)))
  · intro g p b hp hb
    rcases olook_new hp with ⟨rfl, rfl⟩ | ⟨hne, hp⟩
    · exact h.own g o b h0 hb
    · exact h.own g p b hp hb
  · intro g p b hp hb
    rcases olook_new hp with ⟨rfl, rfl⟩ | ⟨hne, hp⟩
    · exact h.nw g o b h0 hb
    · exact h.nw g p b hp hb
  · intro q hq
    obtain ⟨hq, hq1⟩ := mem_dropB hq
    refine h.holeTurn hg hq (fun b k hb e => ?_) hexs
    cases hbo : q.box with
    | none => rw [hbo] at hb; exact hxr b e hb.none_blk
    | some g =>
      rw [hbo] at hb
      obtain ⟨⟨p, hp⟩, hgb⟩ := hb.some_blk
      exact hq1 (by rw [hbo, h.sep g tag p o b hp h0 hgb (hr b e)])
  · have hex : ∀ g p, olook g (st.turn tag o').objs = some p → ∃ q, olook g st.objs = some q := by
      intro g p hp
      rcases olook_new hp with ⟨rfl, _⟩ | ⟨_, hp⟩
      · exact ⟨o, h0⟩
      · exact ⟨p, hp⟩
    intro g k p q b hp hq hb hb'
    obtain ⟨p', hp'⟩ := hex g p hp
    obtain ⟨q', hq'⟩ := hex k q hq
    exact h.sep g k p' q' b hp' hq' hb hb'
theorem Inv.freeze (h : Inv B X w0 S ν st tmps w) {tag : Nat} {o : Obj} (h0 : olook tag st.objs = some o) (htk : isTk tag = false) : Inv B X w0 (fun b => S b ∧ (ν tag).ownBlock ≠ some b) ν (st.freeze tag o) tmps w := by
  have hlook : ∀ g, g ≠ tag → olook g (odrop tag st.objs) = olook g st.objs := fun g hne => olook_drop_ne hne _
  have hback : ∀ g p, olook g (odrop tag st.objs) = some p → g ≠ tag ∧ olook g st.objs = some p := by
    intro g p hp
    by_cases e : g = tag
    · subst e; rw [olook_drop] at hp; cases hp
    · exact ⟨e, by rw [← hlook g e]; exact hp⟩
  have hBb : ∀ b, (ν tag).ownBlock = some b → B ≤ b := fun b hb => (h.nw tag o b h0 hb).resolve_right fun h => by rw [htk] at h; cases h.1
  have hown : ∀ b, X.v.ownBlock = some b → (ν tag).ownBlock ≠ some b := fun b hb e => by
    have := hBb b e
    have := (h.lx b hb).2
    omega
  refine ⟨h.fr, h.base, by simpa [St.freeze] using h.len, ?_, ?_, ?_, fun b hb => h.lt b hb.1,
    fun o ho => (h.win o ho).grow (Nat.le_refl _) (fun b _ hs => hs.imp (fun h => h.1) id) (fun _ _ _ => rfl) (fun _ _ => rfl), ⟨fun b hb => ⟨⟨(h.lx b hb).1, hown b hb⟩, (h.lx b hb).2⟩, fun b hb => ⟨⟨(h.la b hb).1, fun e => by have := hBb b e; have := (h.la b hb).2.1; omega⟩, (h.la b hb).2⟩⟩, fun b hb => ⟨⟨(h.lm b hb).1, fun e => by have := hBb b e; have := (h.lm b hb).2.1; omega⟩, (h.lm b hb).2⟩, fun g p b hp hb => h.nw g p b (hback g p hp).2 hb, fun q hq => by
      obtain ⟨hq, hq1, hq2⟩ := mem_dropH hq
      exact (h.hole q hq).keep (fun _ _ _ => rfl) (fun g hg => ⟨rfl, fun p hp => ⟨p, by
        show olook g (odrop tag st.objs) = some p
        rw [hlook g fun e => hq1 (by rw [hg, e])]; exact hp⟩⟩) ⟨rfl, fun p hp => ⟨p, by
        show olook q.row (odrop tag st.objs) = some p
        rw [hlook _ hq2]; exact hp⟩⟩, ?_⟩
  · intro i s hi
    simp only [St.freeze, List.getElem?_map] at hi
    cases hu : st.env[i]? with
    | none => rw [hu] at hi; cases hi
    | some u =>
      rw [hu] at hi
      cases hi
      obtain ⟨x, hx, hrd⟩ := h.slot i u hu
      refine ⟨x, hx, SlotRd.map (f1 := Slot.thaw1 tag o) (fun _ => rfl) (fun s hs => ?_) (fun s _ ss => thaw1_tup tag o s ss) (fun s v hsv => ?_) hrd⟩
      · cases s <;> first | rfl | exact absurd rfl (hs _)
      · have hm := fun (s' : Slot) (hsv' : Slot1Rd B X w S ν st.objs s' v) (hns : ∀ t x rows, s' ≠ .hv t x rows) ho => Slot1Rd.mono (w' := w) (S' := fun b => S b ∧ (ν tag).ownBlock ≠ some b) (ν' := ν) (objs' := odrop tag st.objs) (World.grownBy.refl w none) (fun b _ hs => hs.1) hsv' ho (.inl hns)
        cases s with
        | ref g =>
          show Slot1Rd _ _ _ _ _ _ (if Nat.beq g tag = true then .val o.fr (.sl o.e) o.xs else .ref g) v
          by_cases e : g = tag
          · rw [if_pos (nbeq.2 e)]
            subst e
            obtain ⟨rfl, _⟩ := hsv
            refine (h.obj g o h0).val fun b hb hs => ?_
            rcases hs with hs | hs
            · exact ⟨.inl hs.1, hs.2⟩
            · refine ⟨.inr hs, fun e => ?_⟩
              have := hBb b e
              omega
          · rw [if_neg (by rw [nbeq]; exact e)]
            refine hm _ hsv (fun _ _ _ e => by cases e) fun k hk => ⟨hlook k ?_, rfl⟩
            rcases hk with ⟨_, hk | ⟨_, _, _, _, hk⟩ | ⟨⟨_, _, _, _, hk⟩, _⟩⟩ <;> cases hk
            exact e
        | eptr g i p u q =>
          show Slot1Rd _ _ _ _ _ _ (if Nat.beq g tag = true then .undef else .eptr g i p u q) v
          by_cases e : g = tag
          · rw [if_pos (nbeq.2 e)]; trivial
          · rw [if_neg (by rw [nbeq]; exact e)]
            refine hm _ hsv (fun _ _ _ e => by cases e) fun k hk => ⟨hlook k ?_, rfl⟩
            rcases hk with ⟨_, hk | ⟨_, _, _, _, hk⟩ | ⟨⟨_, _, _, _, hk⟩, _⟩⟩ <;> cases hk
            exact e
        | view g l a b c =>
          show Slot1Rd _ _ _ _ _ _ (if Nat.beq g tag = true then .undef else .view g l a b c) v
          by_cases e : g = tag
          · rw [if_pos (nbeq.2 e)]; trivial
          · rw [if_neg (by rw [nbeq]; exact e)]
            refine hm _ hsv (fun _ _ _ e => by cases e) fun k hk => ⟨hlook k ?_, rfl⟩
            rcases hk with ⟨_, hk | ⟨_, _, _, _, hk⟩ | ⟨⟨_, _, _, _, hk⟩, _⟩⟩ <;> cases hk
            exact e
        | tup ss => trivial
        | hv t x rows =>
          show Slot1Rd _ _ _ _ _ _ (if hasRow tag rows = true then .undef else .hv t x rows) v
          by_cases e : hasRow tag rows = true
          · rw [if_pos e]; trivial
          · rw [if_neg e]
            refine ⟨hsv.1, hsv.2.1.flat hsv.1, fun q hq => ?_⟩
            obtain ⟨h1, o', h2⟩ := hsv.2.2 q hq
            exact ⟨h1, o', (hlook _ fun e' => e (hasRow_mem hq e')).trans h2⟩
        | _ =>
          refine hm _ hsv (fun _ _ _ e => by cases e) fun k hk => ?_
          rcases hk with ⟨_, hk | ⟨_, _, _, _, hk⟩ | ⟨⟨_, _, _, _, hk⟩, _⟩⟩ <;> cases hk
  · intro g p hp
    obtain ⟨_, hp⟩ := hback g p hp
    exact (h.obj g p hp).mono (World.grownBy.refl w none) (fun b _ hs => hs.1)
  · intro g p b hp hb
    obtain ⟨hne, hp⟩ := hback g p hp
    exact ⟨h.own g p b hp hb, fun e => hne (h.sep g tag p o b hp h0 hb e)⟩
  · intro g k p q b hp hq
    exact h.sep g k p q b (hback g p hp).2 (hback k q hq).2
theorem thawB1_tup (tag : Nat) (fr : Bool) (t : Ty) (x : t.I) (s : Slot) (ss : List Slot) : s.thawB1 tag fr t x ≠ .tup ss := by
  cases s with
  | eptr g i p u q =>
    simp only [Slot.thawB1]
    split
    · cases p with
      | nil => by_cases hi : (i == 0) = true <;> simp only [ptrVal, hi] <;> simp
      | cons a b => simp [ptrVal]
    · simp
  | _ => simp only [Slot.thawB1] <;> (try split) <;> simp
theorem Inv.freezeB (h : Inv B X w0 S ν st tmps w) {tag : Nat} {o : Obj} (h0 : olook tag st.objs = some o) (htk : isTk tag = false) {x : o.e.I} (hx : o.xs = [x]) : Inv B X w0 (fun b => S b ∧ (ν tag).ownBlock ≠ some b) ν (st.freezeB tag o.fr o.e x) tmps w := by
  have hlook : ∀ g, g ≠ tag → olook g (odrop tag st.objs) = olook g st.objs := fun g hne => olook_drop_ne hne _
  have hback : ∀ g p, olook g (odrop tag st.objs) = some p → g ≠ tag ∧ olook g st.objs = some p := by
    intro g p hp
    by_cases e : g = tag
    · subst e; rw [olook_drop] at hp; cases hp
    · exact ⟨e, by rw [← hlook g e]; exact hp⟩
  have hBb : ∀ b, (ν tag).ownBlock = some b → B ≤ b := fun b hb => (h.nw tag o b h0 hb).resolve_right fun h => by rw [htk] at h; cases h.1
  have hown : ∀ b, X.v.ownBlock = some b → (ν tag).ownBlock ≠ some b := fun b hb e => by
    have := hBb b e
    have := (h.lx b hb).2
    omega
  refine ⟨h.fr, h.base, by simpa [St.freezeB] using h.len, ?_, ?_, ?_, fun b hb => h.lt b hb.1,
    fun o ho => (h.win o ho).grow (Nat.le_refl _) (fun b _ hs => hs.imp (fun h => h.1) id) (fun _ _ _ => rfl) (fun _ _ => rfl), ⟨fun b hb => ⟨⟨(h.lx b hb).1, hown b hb⟩, (h.lx b hb).2⟩, fun b hb => ⟨⟨(h.la b hb).1, fun e => by have := hBb b e; have := (h.la b hb).2.1; omega⟩, (h.la b hb).2⟩⟩, fun b hb => ⟨⟨(h.lm b hb).1, fun e => by have := hBb b e; have := (h.lm b hb).2.1; omega⟩, (h.lm b hb).2⟩, fun g p b hp hb => h.nw g p b (hback g p hp).2 hb, fun q hq => by
      obtain ⟨hq, hq1, hq2⟩ := mem_dropH hq
      exact (h.hole q hq).keep (fun _ _ _ => rfl) (fun g hg => ⟨rfl, fun p hp => ⟨p, (hlook g fun e => hq1 (by rw [hg, e])).trans hp⟩⟩) ⟨rfl, fun p hp => ⟨p, (hlook _ hq2).trans hp⟩⟩, ?_⟩
  · intro i s hi
    simp only [St.freezeB, List.getElem?_map] at hi
    cases hu : st.env[i]? with
    | none => rw [hu] at hi; cases hi
    | some u =>
      rw [hu] at hi
      cases hi
      obtain ⟨z, hz, hrd⟩ := h.slot i u hu
      refine ⟨z, hz, SlotRd.map (f1 := Slot.thawB1 tag o.fr o.e x) (fun _ => rfl) (fun s hs => ?_) (fun s _ ss => thawB1_tup tag o.fr o.e x s ss) (fun s v hsv => ?_) hrd⟩
      · cases s <;> first | rfl | exact absurd rfl (hs _)
      · have hm := fun (s' : Slot) (hsv' : Slot1Rd B X w S ν st.objs s' v) (hns : ∀ t x rows, s' ≠ .hv t x rows) ho => Slot1Rd.mono (w' := w) (S' := fun b => S b ∧ (ν tag).ownBlock ≠ some b) (ν' := ν) (objs' := odrop tag st.objs) (World.grownBy.refl w none) (fun b _ hs => hs.1) hsv' ho (.inl hns)
        cases s with
        | ref g =>
          show Slot1Rd _ _ _ _ _ _ (if Nat.beq g tag = true then .undef else .ref g) v
          by_cases e : g = tag
          · rw [if_pos (nbeq.2 e)]; trivial
          · rw [if_neg (by rw [nbeq]; exact e)]
            refine hm _ hsv (fun _ _ _ e => by cases e) fun k hk => ⟨hlook k ?_, rfl⟩
            rcases hk with ⟨_, hk | ⟨_, _, _, _, hk⟩ | ⟨⟨_, _, _, _, hk⟩, _⟩⟩ <;> cases hk
            exact e
        | eptr g i p u q =>
          show Slot1Rd _ _ _ _ _ _ (if Nat.beq g tag = true then ptrVal o.fr o.e x i p else .eptr g i p u q) v
          by_cases e : g = tag
          · rw [if_pos (nbeq.2 e)]
            cases p with
            | cons a b => trivial
            | nil =>
              show Slot1Rd _ _ _ _ _ _ (if i == 0 then .val o.fr (.ptr o.e) x else .undef) v
              by_cases e0 : i = 0
              · rw [if_pos (by simp [e0])]
                subst e e0
                obtain ⟨o1, b, n, cap, el, p1, p2, p3, p4, p5, _⟩ := hsv
                rw [h0] at p1
                have e1 := Option.some.inj p1
                subst e1
                have hobj := h.obj g o h0
                have hb0 : (ν g).ownBlock = some b := by rw [p2]; rfl
                have hlt := h.lt b (h.own g o b h0 hb0)
                have hel : el = x := by
                  rw [hx] at p5
                  exact (Option.some.inj p5).symm
                subst hel
                obtain ⟨cs, hown2, hrow⟩ := hobj
                have hcells := @World.ownsRow.cells _ _ _ _ _ _ _ hown2
                obtain ⟨us, k1, k2⟩ := hrow 0 el p5
                refine ⟨[.pointer (some ⟨b, 0, none⟩)], ?_, ?_⟩
                · unfold Rd
                  refine ⟨⟨b, 0, none⟩, rfl, fun hav => ?_, hlt, us, k1.keep (Nat.le_refl _) (fun b _ hs => hs.imp (fun h => h.1) id) (fun _ _ _ => rfl), fun j z hj => ?_⟩
                  · rcases hav with hav | ⟨_, hav⟩
                    · exact hav.2 hb0
                    · have hav : b < B := hav
                      have := hBb b hb0
                      omega
                  · have := hcells hb0 _ _ (k2 j z hj)
                    simpa using this
                · have ho0 : offAt o.e [] = 0 := by cases o.e <;> rfl
                  rw [p4, ho0]
                  simp [mkV]
              · rw [if_neg (by simpa using e0)]; trivial
          · rw [if_neg (by rw [nbeq]; exact e)]
            refine hm _ hsv (fun _ _ _ e => by cases e) fun k hk => ⟨hlook k ?_, rfl⟩
            rcases hk with ⟨_, hk | ⟨_, _, _, _, hk⟩ | ⟨⟨_, _, _, _, hk⟩, _⟩⟩ <;> cases hk
            exact e
        | view g l a b c =>
          show Slot1Rd _ _ _ _ _ _ (if Nat.beq g tag = true then .undef else .view g l a b c) v
          by_cases e : g = tag
          · rw [if_pos (nbeq.2 e)]; trivial
          · rw [if_neg (by rw [nbeq]; exact e)]
            refine hm _ hsv (fun _ _ _ e => by cases e) fun k hk => ⟨hlook k ?_, rfl⟩
            rcases hk with ⟨_, hk | ⟨_, _, _, _, hk⟩ | ⟨⟨_, _, _, _, hk⟩, _⟩⟩ <;> cases hk
            exact e
        | tup ss => trivial
        | hv t' x' rows =>
          show Slot1Rd _ _ _ _ _ _ (if hasRow tag rows = true then .undef else .hv t' x' rows) v
          by_cases e : hasRow tag rows = true
          · rw [if_pos e]; trivial
          · rw [if_neg e]
            refine ⟨hsv.1, hsv.2.1.flat hsv.1, fun q hq => ?_⟩
            obtain ⟨h1, o', h2⟩ := hsv.2.2 q hq
            exact ⟨h1, o', (hlook _ fun e' => e (hasRow_mem hq e')).trans h2⟩
        | _ =>
          refine hm _ hsv (fun _ _ _ e => by cases e) fun k hk => ?_
          rcases hk with ⟨_, hk | ⟨_, _, _, _, hk⟩ | ⟨⟨_, _, _, _, hk⟩, _⟩⟩ <;> cases hk
  · intro g p hp
    obtain ⟨_, hp⟩ := hback g p hp
    exact (h.obj g p hp).mono (World.grownBy.refl w none) (fun b _ hs => hs.1)
  · intro g p b hp hb
    obtain ⟨hne, hp⟩ := hback g p hp
    exact ⟨h.own g p b hp hb, fun e => hne (h.sep g tag p o b hp h0 hb e)⟩
  · intro g k p q b hp hq
    exact h.sep g k p q b (hback g p hp).2 (hback k q hq).2
theorem Inv.know (h : Inv B X w0 S ν st tmps w) {d : Nat} {fr c : Bool} (hd : st.get d = .val fr .bool c) : Inv B X w0 S ν (st.set d (.lit c)) tmps w := by
  obtain ⟨v, hv, hs⟩ := h.get d
  rw [hd] at hs
  have hs' : SlotRd B X w S ν st.objs (.lit c) v := by
    obtain ⟨cs, h1, h2⟩ := hs
    unfold Rd at h1
    subst h1
    exact h2
  have h2 := h.set hs' d
  have e : tmps.setIfInBounds d v = tmps := by
    by_cases hlt : d < tmps.size
    · rw [← hv, Array.getD_eq_getD_getElem?, Array.getElem?_eq_getElem hlt]
      simp [Array.setIfInBounds, hlt]
    · simp [Array.setIfInBounds, hlt]
  rwa [e] at h2
theorem Inv.widen (h : Inv B X w0 S ν st tmps w) (hg : w.grownBy w' none) (h1 : ∀ b, S b → S' b) (h2 : ∀ b, S' b → S b ∨ w.heap.size ≤ b) (h3 : ∀ b, S' b → b < w'.heap.size) : Inv B X w0 S' ν st tmps w' := by
  have hS : ∀ b, b < w.heap.size → S' b → S b := fun b hb hs => (h2 b hs).resolve_right (by omega)
  refine ⟨h.fr.grown hg (Nat.le_trans h.base.1 h.fr.size) (fun k hk => by cases hk) (fun b hb => (h.lx b hb).2), h.base, h.len, fun i s hi => ?_, fun g o ho => (h.obj g o ho).mono hg hS, fun g o b ho hb => h1 b (h.own g o b ho hb), h3,
    fun o ho => (h.win o ho).grow hg.size (fun b hb hs => hs.imp (hS b hb) id) (fun b hb _ => hg.block b hb (by simp)) (fun b hb => hg.block b (h.lt b (h.lx b hb).1) (by simp)), ⟨fun b hb => ⟨h1 b (h.lx b hb).1, (h.lx b hb).2⟩, fun b hb => ⟨h1 b (h.la b hb).1, (h.la b hb).2⟩⟩, fun b hb => ⟨h1 b (h.lm b hb).1, (h.lm b hb).2⟩, h.nw, h.holeMono hg, h.sep⟩
  obtain ⟨v, k1, k2⟩ := h.slot i s hi
  exact ⟨v, k1, SlotRd.map (f1 := id) (f := id) (fun ss => by simp) (fun _ _ => rfl) (fun s hs ss => hs ss) (fun s v hsv => Slot1Rd.mono hg hS hsv (fun _ _ => ⟨rfl, rfl⟩)) k2⟩
theorem Inv.narrow (h : Inv B X w0 S ν st tmps w) (h1 : ∀ b, S' b → S b) (h2 : ∀ g o b, olook g st.objs = some o → (ν g).ownBlock = some b → S' b) (h3 : ∀ b, X.v.ownBlock = some b ∨ X.more b ∨ X.av b → S' b) : Inv B X w0 S' ν st tmps w := by
  refine ⟨h.fr, h.base, h.len, fun i s hi => ?_, fun g o ho => (h.obj g o ho).mono (World.grownBy.refl w none) (fun b _ hs => h1 b hs), h2, fun b hb => h.lt b (h1 b hb),
    fun o ho => (h.win o ho).grow (Nat.le_refl _) (fun b _ hs => hs.imp (h1 b) id) (fun _ _ _ => rfl) (fun _ _ => rfl), ⟨fun b hb => ⟨h3 b (.inl hb), (h.lx b hb).2⟩, fun b hb => ⟨h3 b (.inr (.inr hb)), (h.la b hb).2⟩⟩, fun b hb => ⟨h3 b (.inr (.inl hb)), (h.lm b hb).2⟩, h.nw, h.hole, h.sep⟩
  obtain ⟨v, k1, k2⟩ := h.slot i s hi
  exact ⟨v, k1, SlotRd.map (f1 := id) (f := id) (fun ss => by simp) (fun _ _ => rfl) (fun s hs ss => hs ss) (fun s v hsv => Slot1Rd.mono (World.grownBy.refl w none) (fun b _ hs => h1 b hs) hsv (fun _ _ => ⟨rfl, rfl⟩)) k2⟩
theorem Inv.adopt (h : Inv B X w0 S ν st tmps w) (tag : Nat) {o : Obj} {v' : Value} (ho : ObjRd B w S v' o) (hS : ∀ b, v'.ownBlock = some b → S b) (hn : ∀ g p b, g ≠ tag → olook g st.objs = some p → (ν g).ownBlock = some b → v'.ownBlock ≠ some b) (hnw : ∀ b, v'.ownBlock = some b → B ≤ b ∨ (isTk tag = true ∧ X.more b)) :
    Inv B X w0 S (upd ν tag v') (st.new tag o) tmps w := by
  have hlook : ∀ g, g ≠ tag → olook g ((tag, o) :: odrop tag st.objs) = olook g st.objs := by
    intro g hne
    rw [olook_cons, if_neg (fun e => hne e.symm), olook_drop_ne hne]
  refine ⟨h.fr, h.base, by simpa [St.new] using h.len, ?_, ?_, ?_, h.lt, h.win, h.lx2, h.lm, fun g p b hp hb => by
    rcases olook_new hp with ⟨rfl, rfl⟩ | ⟨hne, hp⟩
    · rw [upd_same] at hb; exact hnw b hb
    · rw [upd_ne hne] at hb; exact h.nw g p b hp hb, fun q hq => by
    obtain ⟨hq, hq1, hq2⟩ := mem_dropH hq
    exact (h.hole q hq).keep (fun _ _ _ => rfl) (fun g hg => ⟨upd_ne fun e => hq1 (by rw [hg, e]), fun p hp => ⟨p, by
      show olook g ((tag, o) :: odrop tag st.objs) = some p
      rw [hlook g fun e => hq1 (by rw [hg, e])]; exact hp⟩⟩) ⟨upd_ne hq2, fun p hp => ⟨p, by
      show olook q.row ((tag, o) :: odrop tag st.objs) = some p
      rw [hlook _ hq2]; exact hp⟩⟩, ?_⟩
  · intro i s hi
    simp only [St.new, List.getElem?_map] at hi
    cases hu : st.env[i]? with
    | none => rw [hu] at hi; cases hi
    | some u =>
      rw [hu] at hi
      cases hi
      obtain ⟨x, hx, hrd⟩ := h.slot i u hu
      refine ⟨x, hx, SlotRd.map (f1 := Slot.poison1 tag) (fun _ => rfl) (fun s hs => ?_) (fun s _ ss => poison1_tup tag s ss) (fun s v hsv => ?_) hrd⟩
      · cases s <;> first | rfl | exact absurd rfl (hs _)
      · have hm := fun (s' : Slot) (hsv' : Slot1Rd B X w S ν st.objs s' v) (hns : ∀ t x rows, s' ≠ .hv t x rows) ho => Slot1Rd.mono (w' := w) (S' := S) (ν' := upd ν tag v') (objs' := (tag, o) :: odrop tag st.objs) (World.grownBy.refl w none) (fun b _ hs => hs) hsv' ho (.inl hns)
        cases s with
        | ref g =>
          show Slot1Rd _ _ _ _ _ _ (if Nat.beq g tag = true then .undef else .ref g) v
          by_cases e : g = tag
          · rw [if_pos (nbeq.2 e)]; trivial
          · rw [if_neg (by rw [nbeq]; exact e)]
            refine hm _ hsv (fun _ _ _ e => by cases e) fun k hk => ?_
            rcases hk with ⟨_, hk | ⟨_, _, _, _, hk⟩ | ⟨⟨_, _, _, _, hk⟩, _⟩⟩ <;> cases hk
            exact ⟨hlook _ e, upd_ne e⟩
        | eptr g i p u q =>
          show Slot1Rd _ _ _ _ _ _ (if Nat.beq g tag = true then .undef else .eptr g i p u q) v
          by_cases e : g = tag
          · rw [if_pos (nbeq.2 e)]; trivial
          · rw [if_neg (by rw [nbeq]; exact e)]
            refine hm _ hsv (fun _ _ _ e => by cases e) fun k hk => ?_
            rcases hk with ⟨_, hk | ⟨_, _, _, _, hk⟩ | ⟨⟨_, _, _, _, hk⟩, _⟩⟩ <;> cases hk
            exact ⟨hlook _ e, upd_ne e⟩
        | view g l a b c =>
          show Slot1Rd _ _ _ _ _ _ (if Nat.beq g tag = true then .undef else .view g l a b c) v
          by_cases e : g = tag
          · rw [if_pos (nbeq.2 e)]; trivial
          · rw [if_neg (by rw [nbeq]; exact e)]
            refine hm _ hsv (fun _ _ _ e => by cases e) fun k hk => ?_
            rcases hk with ⟨_, hk | ⟨_, _, _, _, hk⟩ | ⟨⟨_, _, _, _, hk⟩, _⟩⟩ <;> cases hk
            exact ⟨hlook _ e, upd_ne e⟩
        | tup ss => trivial
        | hv t x rows =>
          show Slot1Rd _ _ _ _ _ _ (if hasRow tag rows = true then .undef else .hv t x rows) v
          by_cases e : hasRow tag rows = true
          · rw [if_pos e]; trivial
          · rw [if_neg e]
            refine ⟨hsv.1, hsv.2.1.flat hsv.1, fun q hq => ?_⟩
            obtain ⟨h1, o', h2⟩ := hsv.2.2 q hq
            have hne : q.2 ≠ tag := fun e' => e (hasRow_mem hq e')
            exact ⟨by rw [upd_ne hne]; exact h1, o', (hlook _ hne).trans h2⟩
        | _ =>
          refine hm _ hsv (fun _ _ _ e => by cases e) fun k hk => ?_
          rcases hk with ⟨_, hk | ⟨_, _, _, _, hk⟩ | ⟨⟨_, _, _, _, hk⟩, _⟩⟩ <;> cases hk
  · intro g p hp
    rcases olook_new hp with ⟨rfl, rfl⟩ | ⟨hne, hp⟩
    · rw [upd_same]; exact ho
    · rw [upd_ne hne]; exact h.obj g p hp
  · intro g p b hp hb
    rcases olook_new hp with ⟨rfl, rfl⟩ | ⟨hne, hp⟩
    · rw [upd_same] at hb; exact hS b hb
    · rw [upd_ne hne] at hb; exact h.own g p b hp hb
  · intro g k p q b hp hq hb hb'
    rcases olook_new hp with ⟨hg1, _⟩ | ⟨hne, hp1⟩ <;> rcases olook_new hq with ⟨hk1, _⟩ | ⟨hne', hq1⟩
    · rw [hg1, hk1]
    · rw [hg1, upd_same] at hb; rw [upd_ne hne'] at hb'; exact (hn k q b hne' hq1 hb' hb).elim
    · rw [hk1, upd_same] at hb'; rw [upd_ne hne] at hb; exact (hn g p b hne hp1 hb hb').elim
    · rw [upd_ne hne] at hb; rw [upd_ne hne'] at hb'; exact h.sep g k p q b hp1 hq1 hb hb'
theorem staleL1_tup (s : Slot) (ss : List Slot) : s.staleL1 ≠ .tup ss := by
  cases s <;> simp [Slot.staleL1]
theorem poisonL1_tup (s : Slot) (ss : List Slot) : s.poisonL1 ≠ .tup ss := by
  cases s <;> simp [Slot.poisonL1]
theorem Inv.turnL (h : Inv B X w0 S ν st tmps w) {o' : Obj} {b : Nat} (hxb : X.v.ownBlock = some b) (hg : w.grownBy w' (some b)) (hk : Kept B X w w') (ho : WinRd w' (Av S B false) X o') : Inv B X w0 S ν (st.turnL o') tmps w' := by
  obtain ⟨hS, hB⟩ := h.lx b hxb
  have hblk : ∀ (P : Nat → Prop), P b → ∀ c, c < w.heap.size → ¬ P c → w'.heap[c]? = w.heap[c]? := fun P hP c hc hn => hg.block c hc fun e => by
    injection e with e; subst e; exact hn hP
  have hne : ∀ g o, olook g st.objs = some o → (ν g).ownBlock ≠ some b := fun g o ho e => by
    rcases h.nw g o b ho e with h3 | ⟨_, h3⟩
    · omega
    · exact (h.lm b h3).2.2 hxb
  refine ⟨h.fr.trans hk, h.base, by simpa [St.turnL] using h.len, fun i s hi => ?_, fun g p hp => ?_, h.own, fun c hc => Nat.lt_of_lt_of_le (h.lt c hc) hg.size, fun o ho' => by cases ho'; exact ho, h.lx2, h.lm, h.nw, fun q hq => by
    obtain ⟨hq, hq1⟩ := mem_dropB hq
    refine h.holeTurn hg hq (fun c k hc e => ?_) (fun g o ho => ⟨o, ho⟩)
    cases hbo : q.box with
    | none => exact hq1 hbo
    | some g =>
      rw [hbo] at hc
      obtain ⟨⟨p, hp⟩, hgb⟩ := hc.some_blk
      injection e with e
      subst e
      exact hne g p hp hgb, h.sep⟩
  · simp only [St.turnL, List.getElem?_map] at hi
    cases hu : st.env[i]? with
    | none => rw [hu] at hi; cases hi
    | some u =>
      rw [hu] at hi
      cases hi
      obtain ⟨x, hx, hrd⟩ := h.slot i u hu
      refine ⟨x, hx, SlotRd.map (f1 := Slot.staleL1) (fun _ => rfl) (fun s hs => ?_) (fun s _ ss => staleL1_tup s ss) (fun s v hsv => ?_) hrd⟩
      · cases s <;> first | rfl | exact absurd rfl (hs _)
      · cases s with
        | undef => trivial
        | skip => exact hsv
        | lit b => exact hsv
        | val fr t x => exact RdV.keep hg.size (fun _ _ h => h) (hblk _ (.inl hS)) hsv
        | nil => exact hsv
        | nili => exact hsv
        | nilp => exact hsv
        | hv t x rows => exact ⟨hsv.1, hsv.2.1.flat hsv.1, hsv.2.2⟩
        | lenof _ => exact hsv
        | nn fr e xs => exact ⟨RdV.keep hg.size (fun _ _ h => h) (hblk _ (.inl hS)) hsv.1, hsv.2⟩
        | ref g => exact hsv
        | eptr g i p t snap => exact hsv
        | cptr fr t x =>
          obtain ⟨ad, h1, h2, h3, us, h4, h5⟩ := hsv
          exact ⟨ad, h1, h2, Nat.lt_of_lt_of_le h3 hg.size, us, h4.keep hg.size (fun _ _ h => h) (hblk _ (.inl hS)), fun i u hi => (cell_keep _ (hblk _ (.inl hS) _ h3 h2)).trans (h5 i u hi)⟩
        | view g lo fr e xs =>
          obtain ⟨⟨o1, h1⟩, h2, h3⟩ := hsv
          exact ⟨⟨o1, h1⟩, RdV.keep hg.size (fun _ _ h => h) (hblk _ ⟨hS, hne g o1 h1⟩) h2, h3⟩
        | lref => exact hsv
        | leptr i e p t => exact hsv
        | lview lo e xs => trivial
        | tup ss => trivial
  · obtain ⟨cs, h1, h2⟩ := h.obj g p hp
    refine ⟨cs, h1.kept hg ?_, h2.keep hg.size (fun _ _ h => h) (hblk _ (.inl hS))⟩
    cases hb : (ν g).ownBlock with
    | none => exact .inl rfl
    | some c => exact .inr fun e => hne g p hp (by rw [hb, e])
theorem Inv.newL (h : Inv B X w0 S ν st tmps w) {o : Obj} (ho : WinRd w (Av S B false) X o) : Inv B X w0 S ν (st.newL o) tmps w := by
  refine ⟨h.fr, h.base, by simpa [St.newL] using h.len, fun i s hi => ?_, h.obj, h.own, h.lt, fun o ho' => by cases ho'; exact ho, h.lx2, h.lm, h.nw, fun q hq => h.hole q (mem_dropB hq).1, h.sep⟩
  simp only [St.newL, List.getElem?_map] at hi
  cases hu : st.env[i]? with
  | none => rw [hu] at hi; cases hi
  | some u =>
    rw [hu] at hi
    cases hi
    obtain ⟨x, hx, hrd⟩ := h.slot i u hu
    refine ⟨x, hx, SlotRd.map (f1 := Slot.poisonL1) (fun _ => rfl) (fun s hs => ?_) (fun s _ ss => poisonL1_tup s ss) (fun s v hsv => ?_) hrd⟩
    · cases s <;> first | rfl | exact absurd rfl (hs _)
    · cases s <;> first | exact hsv | trivial
end Go.Proofs.YtnldcpanpojeiaaGreatDoor
