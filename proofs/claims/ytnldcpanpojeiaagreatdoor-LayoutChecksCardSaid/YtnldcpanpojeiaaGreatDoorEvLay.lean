/-
  What is live at a place is laid anew, under tags of its own.
-/
import Derived.Test.YtnldcpanpojeiaaGreatDoorEvCopy
namespace Go.Proofs.YtnldcpanpojeiaaGreatDoor
open Go.RowKit
variable {P : Program} {Λ : List Nat} {B : Nat} {X : Lnt} {w0 w w' : World} {S S' : Nat → Prop} {ν : Nat → Value} {st st' : St} {tmps : Array Value} {ds : List Deferred}
theorem slotVal_ok (h : Inv B X w0 S ν st tmps w) {i : Nat} {fr : Bool} {t : Ty} {x : t.I} (hx : slotVal st i fr t = some x) : RdV w (Av S B fr) t x (tmps.getD i undef) := by
  obtain ⟨v, hv, hs⟩ := h.get i
  unfold slotVal at hx
  split at hx
  · rename_i fr' u y hg
    rw [hg] at hs
    split at hx
    · rename_i hc
      rw [hv]
      have hs : RdV w (Av S B fr') u y v := hs
      have hs' := RdV.cast hx hs
      cases hf : t.flat with
      | true => exact hs'.flat hf
      | false =>
        rw [hf] at hc
        refine hs'.keep (Nat.le_refl _) (fun b _ hb => ?_) (fun _ _ _ => rfl)
        rcases hb with hb | ⟨hb, hb'⟩
        · exact .inl hb
        · subst hb
          simp at hc
          exact .inr ⟨hc, hb'⟩
    · cases hx
  · rename_i b hg
    rw [hg] at hs
    have hs : v = .bool b := hs
    rw [hv, hs]
    exact RdV.cast hx (bool_val b)
  · cases hx
structure Laid (B : Nat) (X : Lnt) (w0 : World) (S : Nat → Prop) (ν : Nat → Value) (st : St) (tmps : Array Value) (w : World) (ν1 : Nat → Value) (st1 : St) (used : List Nat) (tags : List (Nat × TagAt)) : Prop where
  inv : Inv B X w0 S ν1 st1 tmps w
  used : ∀ g p b, olook g st1.objs = some p → (ν1 g).ownBlock = some b → ∃ g0 ∈ used, ∃ p0, olook g0 st.objs = some p0 ∧ (ν g0).ownBlock = some b
  tags : ∀ g k, olook g tags = some k → ∃ p, olook g st1.objs = some p ∧ p.e = k.t ∧
    ((k.box = false ∧ tmps.getD k.i undef = ν1 g ∧ ∀ a b c d e, st.get k.i ≠ .eptr a b c d e) ∨
     (k.box = true ∧ (∃ b n cap el, ν1 g = .slice (some ⟨b, 0, none⟩) n cap ∧ tmps.getD k.i undef = .pointer (some ⟨b, 0, none⟩) ∧ p.xs = [el]) ∧ ∃ a b c d e, st.get k.i = .eptr a b c d e))
variable {ν1 : Nat → Value} {st1 : St} {used : List Nat} {tags : List (Nat × TagAt)}
theorem setIf_getD (i : Nat) : tmps.setIfInBounds i (tmps.getD i undef) = tmps := by
  by_cases hlt : i < tmps.size
  · rw [Array.getD_eq_getD_getElem?, Array.getElem?_eq_getElem hlt]
    simp [Array.setIfInBounds, hlt]
  · simp [Array.setIfInBounds, hlt]
theorem Laid.set (h : Laid B X w0 S ν st tmps w ν1 st1 used tags) {i : Nat} {s : Slot} (hs : SlotRd B X w S ν1 st1.objs s (tmps.getD i undef)) : Laid B X w0 S ν st tmps w ν1 (st1.set i s) used tags := by
  have h2 := h.inv.set hs i
  rw [setIf_getD] at h2
  exact ⟨h2, h.used, h.tags⟩
theorem Laid.obj (h : Laid B X w0 S ν st tmps w ν1 st1 used tags) (h0 : Inv B X w0 S ν st tmps w) {tag : Nat} (hn : olook tag tags = none) {v : Value} {o : Obj} (ho : ObjRd B w S v o) {g0 : List Nat}
    (hg : ∀ b, v.ownBlock = some b → ∃ g p0, g ∈ g0 ∧ olook g st.objs = some p0 ∧ (ν g).ownBlock = some b ∧ g ∉ used ∧ isTk g = false) {k : TagAt} (hk : o.e = k.t)
    (hv : (k.box = false ∧ tmps.getD k.i undef = v ∧ ∀ a b c d e, st.get k.i ≠ .eptr a b c d e) ∨
     (k.box = true ∧ (∃ b n cap el, v = .slice (some ⟨b, 0, none⟩) n cap ∧ tmps.getD k.i undef = .pointer (some ⟨b, 0, none⟩) ∧ o.xs = [el]) ∧ ∃ a b c d e, st.get k.i = .eptr a b c d e)) :
    Laid B X w0 S ν st tmps w (upd ν1 tag v) (st1.new tag o) (g0 ++ used) ((tag, k) :: tags) := by
  refine ⟨h.inv.adopt tag ho (fun b hb => ?_) (fun g p b _ hp hgb hvb => ?_) (fun b hb => ?_), fun g p b hp hb => ?_, fun g k' hk' => ?_⟩
  · obtain ⟨g, p0, _, h1, h2, _⟩ := hg b hb
    exact h0.own g p0 b h1 h2
  · obtain ⟨g1, p1, k1, k2, k3, k4, _⟩ := hg b hvb
    obtain ⟨g2, m1, p2, m2, m3⟩ := h.used g p b hp hgb
    have := h0.sep g1 g2 p1 p2 b k2 m2 k3 m3
    subst this
    exact k4 m1
  · obtain ⟨g1, p1, k1, k2, k3, k4, k5⟩ := hg b hb
    exact (h0.nw g1 p1 b k2 k3).imp id fun h => by rw [k5] at h; cases h.1
  · rcases olook_new hp with ⟨rfl, rfl⟩ | ⟨hne, hp⟩
    · rw [upd_same] at hb
      obtain ⟨g1, p1, k1, k2, k3, _⟩ := hg b hb
      exact ⟨g1, List.mem_append.2 (.inl k1), p1, k2, k3⟩
    · rw [upd_ne hne] at hb
      obtain ⟨g2, m1, m2⟩ := h.used g p b hp hb
      exact ⟨g2, List.mem_append.2 (.inr m1), m2⟩
  · rw [olook_cons] at hk'
    split at hk'
    · rename_i e
      subst e
      cases hk'
      exact ⟨o, look_new, hk, by rw [upd_same]; exact hv⟩
    · rename_i hne
      have hne' : g ≠ tag := fun e => hne e.symm
      obtain ⟨p, h1, h2⟩ := h.tags g k' hk'
      refine ⟨p, ?_, ?_⟩
      · show olook g ((tag, o) :: odrop tag st1.objs) = some p
        rw [olook_cons, if_neg hne, olook_drop_ne hne']
        exact h1
      · rw [upd_ne hne']
        exact h2
theorem Laid.row (h : Laid B X w0 S ν st tmps w ν1 st1 used tags) (h0 : Inv B X w0 S ν st tmps w) {i tag : Nat} {eid : TypeId} {fr : Bool} {e : Ty} {xs : List e.I} (hx : slotRow st i eid fr e = some xs) (hn : olook tag tags = none)
    (hu : ∀ g, st.get i = .ref g → g ∉ used) :
    Laid B X w0 S ν st tmps w (upd ν1 tag (tmps.getD i undef)) (layRow i tag eid fr e xs st1) ((match st.get i with | .ref g => [g] | _ => []) ++ used) ((tag, ⟨i, false, e⟩) :: tags) := by
  obtain ⟨v, hv, hs⟩ := h0.get i
  have main : ObjRd B w S v ⟨eid, fr, e, xs⟩ ∧ (∀ b, v.ownBlock = some b → ∃ g p0, g ∈ (match st.get i with | .ref g => [g] | _ => []) ∧ olook g st.objs = some p0 ∧ (ν g).ownBlock = some b ∧ g ∉ used ∧ isTk g = false) ∧ ∀ a b c d e, st.get i ≠ .eptr a b c d e := by
    unfold slotRow at hx
    split at hx
    · rename_i g hg
      split at hx
      · rename_i o ho
        split at hx
        · rename_i hc
          rw [Bool.and_eq_true, Bool.and_eq_true, Bool.not_eq_true'] at hc
          have he := nbeq.1 hc.1.1
          rw [hg] at hs ⊢
          obtain ⟨e1, e2⟩ := ref_val h0 hs ho
          rw [e1]
          refine ⟨by rw [← he]; exact obj_weak e2 hc.1.2 hx, fun b hb => ⟨g, o, by simp, ho, hb, hu g hg, hc.2⟩, (fun a b c d e h => by cases h)⟩
        · cases hx
      · cases hx
    · rename_i hg
      cases hx
      rw [hg] at hs ⊢
      have hs : v = .slice none 0 0 := hs
      rw [hs]
      exact ⟨⟨[], World.ownsRow_nil w 0 eid e.size, fun j x hj => by simp at hj⟩, (fun b hb => by cases hb), (fun a b c d e h => by cases h)⟩
    · cases hx
  rw [hv]
  have h2 := h.obj h0 (tag := tag) hn main.1 main.2.1 (k := ⟨i, false, e⟩) rfl (.inl ⟨rfl, hv, main.2.2⟩)
  exact h2.set (i := i) (s := .ref tag) (by rw [hv]; exact ⟨upd_same.symm, _, look_new⟩)
theorem Laid.box (h : Laid B X w0 S ν st tmps w ν1 st1 used tags) (h0 : Inv B X w0 S ν st tmps w) {i tag : Nat} {eid : TypeId} {fr : Bool} {t : Ty} {x : t.I} (hx : slotBox st i eid fr t = some x) (hn : olook tag tags = none)
    (hu : ∀ g a b c d, st.get i = .eptr g a b c d → g ∉ used) :
    ∃ v, Laid B X w0 S ν st tmps w (upd ν1 tag v) (layBox i tag eid fr t x st1) ((match st.get i with | .eptr g _ _ _ _ => [g] | _ => []) ++ used) ((tag, ⟨i, true, t⟩) :: tags) := by
  obtain ⟨v, hv, hs⟩ := h0.get i
  unfold slotBox at hx
  split at hx
  · rename_i g u s hg
    rw [hg] at hs
    obtain ⟨o1, b, n, cap, el, p1, p2, p3, p4, p5, p6, _⟩ := hs
    split at hx
    · rename_i o ho
      split at hx
      · rename_i y hy
        split at hx
        · rename_i hc
          rw [Bool.and_eq_true, Bool.and_eq_true, Bool.not_eq_true'] at hc
          have he := nbeq.1 hc.1.1
          rw [ho] at p1
          have e0 : o1 = o := by injection p1 with p1; exact p1.symm
          subst e0
          have hobj := h0.obj g o1 ho
          have hcast : Ty.cast (.sl o1.e) (.sl t) o1.xs = some [x] := by
            have e2 := cast_self hx
            obtain ⟨eid', fr', e', xs'⟩ := o1
            dsimp only at hy e2 hx ⊢
            subst e2
            unfold Ty.cast at hx ⊢
            simp at hx ⊢
            rw [hy, hx]
          have hobj' : ObjRd B w S (ν g) ⟨eid, fr, t, [x]⟩ := by rw [← he]; exact obj_weak hobj hc.1.2 hcast
          have hv0 : tmps.getD i undef = .pointer (some ⟨b, 0, none⟩) := by
            rw [hv, p4, offAt_nil]
            simp
          have h2 := h.obj h0 (tag := tag) hn hobj' (g0 := [g]) (fun c hcb => ⟨g, o1, by simp, ho, hcb, hu g _ _ _ _ hg, hc.2⟩) (k := ⟨i, true, t⟩) rfl (.inr ⟨rfl, ⟨b, n, cap, x, p2, hv0, rfl⟩, _, _, _, _, _, hg⟩)
          refine ⟨ν g, ?_⟩
          rw [hg]
          refine h2.set (i := i) (s := .eptr tag 0 [] t none) ?_
          rw [hv0]
          exact ⟨_, b, n, cap, x, look_new, by rw [upd_same]; exact p2, Int.le_refl _, by rw [offAt_nil]; simp, rfl, tyAt_nil _, fun z hz => by cases hz⟩
        · cases hx
      · cases hx
    · cases hx
  · cases hx
theorem same_ref (h0 : Inv B X w0 S ν st tmps w) {i j : Nat} (h : sameRef st j i = true) : (tmps.getD j undef = tmps.getD i undef) := by
  obtain ⟨v, hv, hs⟩ := h0.get j
  obtain ⟨u, hu, hr⟩ := h0.get i
  rw [hv, hu]
  unfold sameRef at h
  split at h
  · rename_i g g' e1 e2
    rw [e1] at hs
    rw [e2] at hr
    have := nbeq.1 h
    subst this
    exact hs.1.trans hr.1.symm
  · rename_i e1 e2
    rw [e1] at hs
    rw [e2] at hr
    exact (show v = _ from hs).trans (show u = _ from hr).symm
  · rename_i g a b g' a' b' e1 e2
    rw [e1] at hs
    rw [e2] at hr
    have := nbeq.1 h
    subst this
    obtain ⟨o1, b1, n1, c1, l1, p1, p2, p3, p4, _⟩ := hs
    obtain ⟨o2, b2, n2, c2, l2, q1, q2, q3, q4, _⟩ := hr
    rw [p2] at q2
    injection q2 with q2
    injection q2 with q2
    injection q2 with q2
    rw [p4, q4, q2, offAt_nil, offAt_nil]
    simp
  · cases h
theorem Laid.newL (h : Laid B X w0 S ν st tmps w ν1 st1 used tags) {o : Obj} (ho : WinRd w (Av S B false) X o) : Laid B X w0 S ν st tmps w ν1 (st1.newL o) used tags :=
  ⟨h.inv.newL ho, h.used, h.tags⟩
theorem Laid.lrow (h : Laid B X w0 S ν st tmps w ν1 st1 used tags) (h0 : Inv B X w0 S ν st tmps w) {i : Nat} {eid : TypeId} {e : Ty} {xs : List e.I} (hx : slotLRow st i eid e = some xs) : Laid B X w0 S ν st tmps w ν1 (layLRow i eid e xs st1) used tags := by
  obtain ⟨v, hv, hs⟩ := h0.get i
  unfold slotLRow at hx
  split at hx
  · rename_i hg
    rw [hg] at hs
    split at hx
    · rename_i o ho
      split at hx
      · rename_i hc
        have hid := nbeq.1 hc
        obtain ⟨eid', fr, e', xs'⟩ := o
        have he := cast_self hx
        cases he
        have := cast_same hx
        subst this
        have hid : eid' = eid := hid
        subst hid
        have hs : v = X.v := hs
        exact (h.newL (o := ⟨eid', false, e', xs'⟩) (show WinRd w (Av S B false) X ⟨eid', false, e', xs'⟩ from h0.win ⟨eid', fr, e', xs'⟩ ho)).set (i := i) (s := .lref) (by rw [hv, hs]; rfl)
      · cases hx
    · cases hx
  · cases hx
theorem Laid.lbox (h : Laid B X w0 S ν st tmps w ν1 st1 used tags) (h0 : Inv B X w0 S ν st tmps w) {i : Nat} {eid : TypeId} {t : Ty} {x : t.I} (hx : slotLBox st i eid t = some x) : Laid B X w0 S ν st tmps w ν1 (layLBox i eid t x st1) used tags := by
  obtain ⟨v, hv, hs⟩ := h0.get i
  unfold slotLBox at hx
  split at hx
  · rename_i e u hg
    rw [hg] at hs
    split at hx
    · rename_i o ho
      split at hx
      · rename_i y hy
        split at hx
        · rename_i hc
          simp only [Bool.and_eq_true, decide_eq_true_eq] at hc
          have hid := nbeq.1 hc.1
          have hee := hc.2
          subst hee
          obtain ⟨eid', fr, e', xs'⟩ := o
          have he := cast_self hx
          dsimp only at he hy hid
          subst he
          rw [← cast_same hx]
          rw [hy] at ho
          subst hid
          obtain ⟨b, n, cap, k1, k2, k3, k4⟩ := hs
          exact (h.newL (o := ⟨eid', false, e', [y]⟩) (show WinRd w (Av S B false) X ⟨eid', false, e', [y]⟩ from h0.win ⟨eid', fr, e', [y]⟩ ho)).set (i := i) (s := .leptr 0 e' [] e') (by
            rw [hv]
            exact ⟨b, n, cap, k1, k2, k3, tyAt_nil _⟩)
        · cases hx
      · cases hx
    · cases hx
  · cases hx
theorem Laid.lref (h : Laid B X w0 S ν st tmps w ν1 st1 used tags) (h0 : Inv B X w0 S ν st tmps w) {j : Nat} (hx : isLref st j = true) : Laid B X w0 S ν st tmps w ν1 (st1.set j .lref) used tags := by
  obtain ⟨v, hv, hs⟩ := h0.get j
  unfold isLref at hx
  split at hx
  · rename_i hg
    rw [hg] at hs
    have hs : v = X.v := hs
    exact h.set (i := j) (s := .lref) (by rw [hv, hs]; rfl)
  · cases hx
theorem Laid.lptr (h : Laid B X w0 S ν st tmps w ν1 st1 used tags) (h0 : Inv B X w0 S ν st tmps w) {j : Nat} {t : Ty} (hx : isLptr st j t = true) : Laid B X w0 S ν st tmps w ν1 (st1.set j (.leptr 0 t [] t)) used tags := by
  obtain ⟨v, hv, hs⟩ := h0.get j
  unfold isLptr at hx
  split at hx
  · rename_i e u hg
    rw [hg] at hs
    have he : e = t := of_decide_eq_true hx
    subst he
    obtain ⟨b, n, cap, k1, k2, k3, k4⟩ := hs
    exact h.set (i := j) (s := .leptr 0 e [] e) (by rw [hv]; exact ⟨b, n, cap, k1, k2, k3, tyAt_nil _⟩)
  · cases hx
theorem Laid.objN (h : Laid B X w0 S ν st tmps w ν1 st1 used tags) (h0 : Inv B X w0 S ν st tmps w) {tag : Nat} (hn : olook tag tags = none) {o : Obj} {t : Nat} {p0 : Obj} (ht : olook t st.objs = some p0) (hu : t ∉ used) (ho : ObjRd B w S (ν t) o)
    (hnw : ∀ b, (ν t).ownBlock = some b → B ≤ b ∨ (isTk tag = true ∧ X.more b)) : Laid B X w0 S ν st tmps w (upd ν1 tag (ν t)) (st1.new tag o) (t :: used) tags := by
  refine ⟨h.inv.adopt tag ho (fun b hb => h0.own t p0 b ht hb) (fun g p b _ hp hgb hvb => ?_) hnw, fun g p b hp hb => ?_, fun g k' hk' => ?_⟩
  · obtain ⟨g2, m1, p2, m2, m3⟩ := h.used g p b hp hgb
    have := h0.sep t g2 p0 p2 b ht m2 hvb m3
    subst this
    exact hu m1
  · rcases olook_new hp with ⟨rfl, rfl⟩ | ⟨hne, hp⟩
    · rw [upd_same] at hb
      exact ⟨t, List.mem_cons_self, p0, ht, hb⟩
    · rw [upd_ne hne] at hb
      obtain ⟨g2, m1, m2⟩ := h.used g p b hp hb
      exact ⟨g2, List.mem_cons_of_mem _ m1, m2⟩
  · have hne : g ≠ tag := fun e => by rw [e, hn] at hk'; cases hk'
    obtain ⟨p, h1, h2⟩ := h.tags g k' hk'
    refine ⟨p, ?_, ?_⟩
    · show olook g ((tag, o) :: odrop tag st1.objs) = some p
      rw [olook_cons, if_neg (fun e => hne e.symm), olook_drop_ne hne]
      exact h1
    · rw [upd_ne hne]
      exact h2
theorem Laid.rehole (h : Laid B X w0 S ν st tmps w ν1 st1 used tags) {hs : List Hole} (hh : ∀ q ∈ hs, HoleRd X w ν1 st1.objs q) : Laid B X w0 S ν st tmps w ν1 { st1 with holes := hs } used tags :=
  ⟨h.inv.rehole hh, h.used, h.tags⟩
theorem Laid.rows (h0 : Inv B X w0 S ν st tmps w) {bo bo' : Option Nat} {b k0 : Nat} (hb : BoxAt X ν st.objs bo b k0) {tk : Bool} (htk : bo' = none ∨ tk = false) {hs : List (Nat × TypeId)} : ∀ {l : List (Nat × Row)} {ν1 : Nat → Value} {st1 : St} {used : List Nat},
    Laid B X w0 S ν st tmps w ν1 st1 used tags → BoxAt X ν1 st1.objs bo' b k0 → (∀ q ∈ l, ∃ ro, rowObj st bo q.1 = some ro ∧ q.2 = ⟨ro.2.e, ro.2.xs⟩ ∧ ro.2.eid = eidAt hs q.1 ∧ ro.2.e.flat = true ∧ (tk = true ∨ isTk ro.1 = false)) →
      (rowTagsOf st bo (l.map fun q => (q.1, q.2.e))).Nodup → (∀ g ∈ rowTagsOf st bo (l.map fun q => (q.1, q.2.e)), g ∉ used) → (∀ q ∈ l, olook (rowTag bo' q.1) tags = none) →
      ∃ ν2 used2, (∀ g ∈ used2, g ∈ used ∨ g ∈ rowTagsOf st bo (l.map fun q => (q.1, q.2.e))) ∧ Laid B X w0 S ν st tmps w ν2 (layRows bo' hs l st1) used2 tags ∧ BoxAt X ν2 (layRows bo' hs l st1).objs bo' b k0
  | [], ν1, st1, used, h, hb', _, _, _, _ => ⟨ν1, used, fun g hg => .inl hg, h, hb'⟩
  | (k, r) :: l, ν1, st1, used, h, hb', hl, hn, hu, hnt => by
    obtain ⟨ro, k1, k2, k3, k4, k5⟩ := hl _ List.mem_cons_self
    dsimp only at k1 k2 k3
    obtain ⟨hcell, hlook⟩ := h0.rowAt k1 hb
    have htags : rowTagsOf st bo (((k, r) :: l).map fun q => (q.1, q.2.e)) = ro.1 :: rowTagsOf st bo (l.map fun q => (q.1, q.2.e)) := by
      simp only [List.map_cons, rowTagsOf, k1, List.singleton_append]
    rw [htags] at hn hu
    have hobj : ObjRd B w S (ν ro.1) ⟨eidAt hs k, true, r.e, r.xs⟩ := by
      have := h0.obj _ _ hlook
      subst k2
      rw [← k3]
      exact obj_weak this (by simp [k4]) (by simp [Ty.cast])
    have h1 := h.objN h0 (hnt _ List.mem_cons_self) hlook (hu _ List.mem_cons_self) hobj (fun c hc => by
      rcases h0.nw _ _ c hlook hc with e | ⟨e1, e2⟩
      · exact .inl e
      · rcases htk with e | e
        · subst e
          exact .inr ⟨by show Nat.ble 1000000000000000 (1000000000000000 + k) = true; exact Nat.ble_eq_true_of_le (by omega), e2⟩
        · rcases k5 with k5 | k5
          · rw [e] at k5; cases k5
          · rw [k5] at e1; cases e1)
    have hbx : BoxAt X (upd ν1 (rowTag bo' k) (ν ro.1)) (st1.new (rowTag bo' k) ⟨eidAt hs k, true, r.e, r.xs⟩).objs bo' b k0 := by
      have hne := rowTag_ne (bo := bo') (k := k)
      cases bo' with
      | none => exact hb'
      | some g =>
        have hne : g ≠ rowTag (some g) k := fun e => hne (congrArg some e)
        obtain ⟨⟨o, ho⟩, hv, hk⟩ := hb'
        exact ⟨hexs g o ho, by rw [upd_ne hne]; exact hv, hk⟩
    have h2 := h1.rehole (hs := ⟨bo', k, rowTag bo' k⟩ :: (st1.new (rowTag bo' k) ⟨eidAt hs k, true, r.e, r.xs⟩).holes) (fun q hq => by
      rcases List.mem_cons.1 hq with hq | hq
      · subst hq
        exact ⟨b, k0, hbx, by rw [hcell]; exact congrArg some upd_same.symm, _, look_new⟩
      · exact h1.inv.hole q hq)
    obtain ⟨ν2, used2, g1, g2, g3⟩ := Laid.rows h0 hb htk (l := l) h2 hbx (fun q hq => hl q (List.mem_cons_of_mem _ hq)) (List.nodup_cons.1 hn).2
      (fun g hg hgu => by
        rcases List.mem_cons.1 hgu with e | hgu
        · subst e; exact (List.nodup_cons.1 hn).1 hg
        · exact hu g (List.mem_cons_of_mem _ hg) hgu) (fun q hq => hnt q (List.mem_cons_of_mem _ hq))
    refine ⟨ν2, used2, fun g hg => ?_, g2, g3⟩
    rw [htags]
    rcases g1 g hg with hg | hg
    · rcases List.mem_cons.1 hg with e | hg
      · exact .inr (by rw [e]; exact List.mem_cons_self)
      · exact .inl hg
    · exact .inr (List.mem_cons_of_mem _ hg)
theorem noTags_mem {bo : Option Nat} {q : Nat × Ty} : ∀ {l : List (Nat × Ty)}, noTags tags bo l = true → q ∈ l → olook (rowTag bo q.1) tags = none
  | [], _, h => by cases h
  | (k, e) :: r, hc, h => by
    unfold noTags at hc
    rw [Bool.and_eq_true] at hc
    rcases List.mem_cons.1 h with h | h
    · subst h
      have hc := hc.1
      split at hc
      · assumption
      · cases hc
    · exact noTags_mem hc.2 h
theorem Laid.als (h0 : Inv B X w0 S ν st tmps w) {g tag b : Nat} (hb0 : BoxAt X ν st.objs (some g) b 0) : ∀ {als : List (Nat × Nat)} {ν2 : Nat → Value} {st2 : St} {used2 : List Nat} {tags2 : List (Nat × TagAt)},
    Laid B X w0 S ν st tmps w ν2 st2 used2 tags2 → BoxAt X ν2 st2.objs (some tag) b 0 → okAls st g als = true → Laid B X w0 S ν st tmps w ν2 (layAls tag als st2) used2 tags2
  | [], _, _, _, _, h, _, _ => h
  | (j, off) :: r, ν2, st2, used2, tags2, h, hb, hk => by
    unfold okAls at hk
    rw [Bool.and_eq_true] at hk
    obtain ⟨hk1, hk2⟩ := hk
    unfold layAls
    cases hl : hlook (some tag) off st2.holes with
    | none => exact Laid.als h0 hb0 h hb hk2
    | some r2 =>
      refine Laid.als h0 hb0 (h.set (i := j) (s := .ref r2) ?_) hb hk2
      split at hk1
      · rename_i q q' hq hq'
        have e := nbeq.1 hk1
        subst e
        obtain ⟨x1, m1, m2, m3, m4⟩ := hlook_mem hl
        obtain ⟨x2, n1, n2, n3, n4⟩ := hlook_mem hq'
        obtain ⟨b1, k1, a1, a2, a3⟩ := h.inv.hole x1 m1
        obtain ⟨b2, k2, c1, c2, c3⟩ := h0.hole x2 n1
        rw [m2] at a1
        rw [n2] at c1
        rw [m3, m4] at a2
        rw [n3, n4] at c2
        rw [m4] at a3
        obtain ⟨_, ⟨_, _, s1⟩, s2⟩ := a1
        obtain ⟨_, ⟨_, _, s3⟩, s4⟩ := c1
        obtain ⟨_, ⟨_, _, s5⟩, _⟩ := hb
        obtain ⟨_, ⟨_, _, s6⟩, _⟩ := hb0
        rw [s1] at s5
        rw [s3] at s6
        injection s5 with s5
        injection s5 with s5
        injection s5 with s5
        injection s6 with s6
        injection s6 with s6
        injection s6 with s6
        subst s5
        subst s6
        subst s2
        subst s4
        rw [c2] at a2
        obtain ⟨v, hv, hs⟩ := h0.get j
        rw [hq] at hs
        refine ⟨?_, a3⟩
        rw [hv]
        exact hs.1.trans (Option.some.inj a2)
      · cases hk1
theorem Laid.boxh (h : Laid B X w0 S ν st tmps w ν1 st1 used tags) (h0 : Inv B X w0 S ν st tmps w) {i tag : Nat} {eid : TypeId} {p : Ty} {hs : List (Nat × TypeId)} {als : List (Nat × Nat)} {x : p.I} (hx : slotBoxH st i eid p hs als = some x) (hn : olook tag tags = none)
    (hnt : noTags ((tag, ⟨i, true, holeT p⟩) :: tags) (some tag) (holesOf p 0) = true)
    (hnd : (match st.get i with | .eptr g _ _ _ _ => g :: rowTagsOf st (some g) (holesOf p 0) | _ => []).Nodup) (hu : ∀ g ∈ (match st.get i with | .eptr g _ _ _ _ => g :: rowTagsOf st (some g) (holesOf p 0) | _ => []), g ∉ used) :
    ∃ ν2 used2, (∀ g ∈ used2, g ∈ used ∨ g ∈ (match st.get i with | .eptr g _ _ _ _ => g :: rowTagsOf st (some g) (holesOf p 0) | _ => [])) ∧ Laid B X w0 S ν st tmps w ν2 (layBoxH i tag eid p hs als x st1) used2 ((tag, ⟨i, true, holeT p⟩) :: tags) := by
  obtain ⟨v, hv, hsl⟩ := h0.get i
  unfold slotBoxH at hx
  split at hx
  · rename_i g u s hg
    rw [hg] at hsl hnd hu ⊢
    dsimp only at hnd hu ⊢
    obtain ⟨o1, b, n, cap, el, p1, p2, p3, p4, p5, p6, _⟩ := hsl
    split at hx
    · rename_i o ho
      split at hx
      · rename_i hc
        rw [Bool.and_eq_true, Bool.not_eq_true'] at hc
        have he := nbeq.1 hc.1
        rw [ho] at p1
        have e0 : o1 = o := by injection p1 with p1; exact p1.symm
        subst e0
        split at hx
        case isFalse => cases hx
        rename_i hals
        obtain ⟨q1, q2, q3, q4⟩ := boxFull_spec hx
        have hobj := h0.obj g o1 ho
        have hobj' : ObjRd B w S (ν g) ⟨eid, true, holeT p, [strip p x]⟩ := by rw [← he]; exact obj_weak hobj (by rw [q2]; simp) q3
        have hv0 : tmps.getD i undef = .pointer (some ⟨b, 0, none⟩) := by
          rw [hv, p4, offAt_nil]
          simp
        have h2 := h.obj h0 (tag := tag) hn hobj' (g0 := [g]) (fun c hcb => ⟨g, o1, by simp, ho, hcb, hu g List.mem_cons_self, hc.2⟩) (k := ⟨i, true, holeT p⟩) rfl (.inr ⟨rfl, ⟨b, n, cap, _, p2, hv0, rfl⟩, _, _, _, _, _, hg⟩)
        have hkeys := rowsOf_holes p x 0
        obtain ⟨ν2, used2, g1, g2, g3⟩ := Laid.rows h0 (bo := some g) (bo' := some tag) (b := b) (k0 := 0) ⟨⟨_, ho⟩, ⟨n, cap, p2⟩, rfl⟩ (tk := false) (.inr rfl) (hs := hs) (l := rowsOf p x 0) h2
          ⟨⟨_, look_new⟩, ⟨n, cap, by rw [upd_same]; exact p2⟩, rfl⟩ q4 (by rw [hkeys]; exact (List.nodup_cons.1 hnd).2) (fun t ht htu => by
            rw [hkeys] at ht
            rcases List.mem_append.1 htu with e | htu
            · rw [List.mem_singleton] at e
              subst e
              exact (List.nodup_cons.1 hnd).1 ht
            · exact hu t (List.mem_cons_of_mem _ ht) htu) (fun q hq => noTags_mem (q := (q.1, q.2.e)) hnt (by rw [← hkeys]; exact List.mem_map.2 ⟨q, hq, rfl⟩))
        refine ⟨ν2, used2, fun t ht => ?_, ?_⟩
        · rcases g1 t ht with ht | ht
          · rcases List.mem_append.1 ht with ht | ht
            · rw [List.mem_singleton] at ht
              exact .inr (by rw [ht]; exact List.mem_cons_self)
            · exact .inl ht
          · rw [hkeys] at ht
            exact .inr (List.mem_cons_of_mem _ ht)
        · obtain ⟨⟨o', ho'⟩, ⟨n', cap', hv'⟩, _⟩ := g3
          obtain ⟨p', t1, t2, t3⟩ := g2.tags tag ⟨i, true, holeT p⟩ (by rw [olook_cons, if_pos rfl])
          rcases t3 with ⟨t3, _⟩ | ⟨_, ⟨b', n'', cap'', el', t4, t5, t6⟩, _⟩
          · cases t3
          · obtain ⟨eid', fr', e', xs'⟩ := p'
            dsimp only at t2 t6 t1
            subst t2
            have g3' := g2.set (i := i) (s := .eptr tag 0 [] (holeT p) none) (by
              rw [t5]
              exact ⟨_, b', n'', cap'', el', t1, t4, Int.le_refl _, by rw [offAt_nil]; simp, by rw [t6]; rfl, tyAt_nil _, fun z hz => by cases hz⟩)
            exact Laid.als h0 (g := g) (b := b) ⟨⟨_, ho⟩, ⟨n, cap, p2⟩, rfl⟩ g3' ⟨⟨o', ho'⟩, ⟨n', cap', hv'⟩, rfl⟩ hals
      · cases hx
    · cases hx
  · cases hx
theorem Laid.lboxh (h : Laid B X w0 S ν st tmps w ν1 st1 used tags) (h0 : Inv B X w0 S ν st tmps w) {i : Nat} {eid : TypeId} {p : Ty} {hs : List (Nat × TypeId)} {x : p.I} (hx : slotLBoxH st i eid p hs = some x)
    (hnt : noTags tags none (holesOf p 0) = true) (hnd : (rowTagsOf st none (holesOf p 0)).Nodup) (hu : ∀ g ∈ rowTagsOf st none (holesOf p 0), g ∉ used) :
    ∃ ν2 used2, (∀ g ∈ used2, g ∈ used ∨ g ∈ rowTagsOf st none (holesOf p 0)) ∧ Laid B X w0 S ν st tmps w ν2 (layLBoxH i eid p hs x st1) used2 tags := by
  obtain ⟨v, hv, hsl⟩ := h0.get i
  unfold slotLBoxH at hx
  split at hx
  · rename_i e u hg
    rw [hg] at hsl
    obtain ⟨b, n, cap, k1, k2, k3, k4⟩ := hsl
    split at hx
    · rename_i o ho
      split at hx
      · rename_i hc
        simp only [Bool.and_eq_true, decide_eq_true_eq] at hc
        have hid := nbeq.1 hc.1
        obtain ⟨q1, q2, q3, q4⟩ := boxFull_spec hx
        have hwin : WinRd w (Av S B false) X ⟨eid, false, holeT p, [strip p x]⟩ := by
          have hw := h0.win o ho
          obtain ⟨eid', fr', e', xs'⟩ := o
          dsimp only at q1 q3 hid
          subst q1
          subst hid
          have := cast_same q3
          subst this
          exact hw
        have h2 := h.newL hwin
        have hkeys := rowsOf_holes p x 0
        obtain ⟨ν2, used2, g1, g2, g3⟩ := Laid.rows h0 (bo := none) (bo' := none) (b := b) (k0 := X.k) ⟨⟨n, cap, k1⟩, rfl⟩ (tk := true) (.inl rfl) (hs := hs) (l := rowsOf p x 0) h2
          ⟨⟨n, cap, k1⟩, rfl⟩ q4 (by rw [hkeys]; exact hnd) (fun t ht htu => by
            rw [hkeys] at ht
            exact hu t ht htu) (fun q hq => noTags_mem (q := (q.1, q.2.e)) hnt (by rw [← hkeys]; exact List.mem_map.2 ⟨q, hq, rfl⟩))
        refine ⟨ν2, used2, fun t ht => by rw [← hkeys]; exact g1 t ht, ?_⟩
        refine g2.set (i := i) (s := .leptr 0 (holeT p) [] (holeT p)) ?_
        rw [hv]
        rw [hc.2] at k3
        exact ⟨b, n, cap, k1, k2, k3, tyAt_nil _⟩
      · cases hx
    · cases hx
  · cases hx
end Go.Proofs.YtnldcpanpojeiaaGreatDoor
