/-
  Calls to which a box is given with the rows that it leads to: what is known behind them.
-/
import Derived.Test.YtnldcpanpojeiaaGreatDoorEvCall2
namespace Go.Proofs.YtnldcpanpojeiaaGreatDoor
open Go.RowKit
variable {P : Program} {Λ : List Nat} {G : Ctx} {A : Ann} {T : FuncId → Option Callee} {B : Nat} {X : Lnt} {w0 w w' : World} {S S' : Nat → Prop} {ν : Nat → Value} {st st' : St} {tmps : Array Value} {ds : List Deferred}
theorem obj_weak {v : Value} {o : Obj} {fr : Bool} {e : Ty} {xs : List e.I} (h : ObjRd B w S v o) (hc : (!fr || o.fr || e.flat) = true) (hx : Ty.cast (.sl o.e) (.sl e) o.xs = some xs) : ObjRd B w S v ⟨o.eid, fr, e, xs⟩ := by
  obtain ⟨eid, fr', e', xs'⟩ := o
  have he := cast_self hx
  cases he
  have := cast_val hx
  cases this
  obtain ⟨cs, h1, h2⟩ := h
  refine ⟨cs, h1, ?_⟩
  cases hf : e'.flat with
  | true => exact h2.flat hf
  | false =>
    dsimp only at hc hf
    rw [hf] at hc
    refine h2.keep (Nat.le_refl _) (fun b _ hb => ?_) (fun _ _ _ => rfl)
    rcases hb with hb | ⟨hb, hb'⟩
    · exact .inl hb
    · dsimp only at hb
      subst hb
      simp at hc
      exact .inr ⟨hc, hb'⟩
theorem rowsOf_holes : ∀ (t : Ty) (x : t.I) (k : Nat), (rowsOf t x k).map (fun q => (q.1, q.2.e)) = holesOf t k
  | .int _, _, _ => rfl
  | .bool, _, _ => rfl
  | .str, _, _ => rfl
  | .err _ _, _, _ => rfl
  | .eno _, _, _ => rfl
  | .arr _ _, _, _ => rfl
  | .ptr _, _, _ => rfl
  | .fn _ _, _, _ => rfl
  | .hole, _, _ => rfl
  | .sl _, _, _ => rfl
  | .st p, x, k => rowsOf_holes p x k
  | .pair a b, x, k => by
    show (rowsOf a x.1 k ++ rowsOf b x.2 (k + a.size)).map _ = holesOf a k ++ holesOf b (k + a.size)
    rw [List.map_append, rowsOf_holes a, rowsOf_holes b]
theorem fill_spec {get : Nat → Option Row} : ∀ {t : Ty} {k : Nat} {x : (holeT t).I} {y : t.I}, fillT get t k x = some y → strip t y = x ∧ ∀ q ∈ rowsOf t y k, get q.1 = some q.2
  | .int _, _, _, _, h => by cases h; exact ⟨rfl, fun q hq => by cases hq⟩
  | .bool, _, _, _, h => by cases h; exact ⟨rfl, fun q hq => by cases hq⟩
  | .str, _, _, _, h => by cases h; exact ⟨rfl, fun q hq => by cases hq⟩
  | .err _ _, _, _, _, h => by cases h; exact ⟨rfl, fun q hq => by cases hq⟩
  | .eno _, _, _, _, h => by cases h; exact ⟨rfl, fun q hq => by cases hq⟩
  | .arr _ _, _, _, _, h => by cases h; exact ⟨rfl, fun q hq => by cases hq⟩
  | .ptr _, _, _, _, h => by cases h; exact ⟨rfl, fun q hq => by cases hq⟩
  | .fn _ _, _, _, _, h => by cases h; exact ⟨rfl, fun q hq => by cases hq⟩
  | .hole, _, _, _, h => by cases h; exact ⟨rfl, fun q hq => by cases hq⟩
  | .sl e, k, x, y, h => by
    have h : (match get k with | some r => Ty.cast (.sl r.e) (.sl e) r.xs | none => none) = some y := h
    refine ⟨rfl, fun q hq => ?_⟩
    have hq : q ∈ [(k, (⟨e, y⟩ : Row))] := hq
    rw [List.mem_singleton] at hq
    subst hq
    split at h
    · rename_i r hr
      obtain ⟨e', xs'⟩ := r
      have he := cast_self h
      cases he
      have := cast_val h
      cases this
      exact hr
    · cases h
  | .st p, k, x, y, h => fill_spec (t := p) h
  | .pair a b, k, x, y, h => by
    have h : (match fillT get a k x.1, fillT get b (k + a.size) x.2 with | some y, some z => some (y, z) | _, _ => none) = some y := h
    split at h
    · rename_i y1 y2 h1 h2
      cases h
      obtain ⟨e1, g1⟩ := fill_spec h1
      obtain ⟨e2, g2⟩ := fill_spec h2
      refine ⟨?_, fun q hq => ?_⟩
      · show (strip a y1, strip b y2) = x
        rw [e1, e2]
        rfl
      · have hq : q ∈ rowsOf a y1 k ++ rowsOf b y2 (k + a.size) := hq
        rcases List.mem_append.1 hq with hq | hq
        · exact g1 q hq
        · exact g2 q hq
    · cases h
theorem rowsOk_mem {bo : Option Nat} {hs : List (Nat × TypeId)} {tk : Bool} {q : Nat × Ty} : ∀ {l : List (Nat × Ty)}, rowsOk st bo hs tk l = true → q ∈ l → ∃ ro, rowObj st bo q.1 = some ro ∧ ro.2.eid = eidAt hs q.1 ∧ ro.2.e.flat = true ∧ (tk = true ∨ isTk ro.1 = false)
  | [], _, h => by cases h
  | (k, e) :: r, hc, h => by
    unfold rowsOk at hc
    rw [Bool.and_eq_true] at hc
    rcases List.mem_cons.1 h with h | h
    · subst h
      have hc := hc.1
      split at hc
      · rename_i ro hro
        simp only [Bool.and_eq_true, Bool.or_eq_true, Bool.not_eq_true'] at hc
        exact ⟨ro, hro, nbeq.1 hc.1.1, hc.1.2, hc.2⟩
      · cases hc
    · exact rowsOk_mem hc.2 h
theorem boxFull_spec {bo : Option Nat} {o : Obj} {hs : List (Nat × TypeId)} {tk : Bool} {p : Ty} {y : p.I} (h : boxFull st bo o hs tk p = some y) :
    o.e = holeT p ∧ (holeT p).flat = true ∧ Ty.cast (.sl o.e) (.sl (holeT p)) o.xs = some [strip p y] ∧
      ∀ q ∈ rowsOf p y 0, ∃ ro, rowObj st bo q.1 = some ro ∧ q.2 = ⟨ro.2.e, ro.2.xs⟩ ∧ ro.2.eid = eidAt hs q.1 ∧ ro.2.e.flat = true ∧ (tk = true ∨ isTk ro.1 = false) := by
  unfold boxFull at h
  split at h
  · rename_i x hx
    split at h
    · rename_i x' hc
      split at h
      · rename_i hk
        rw [Bool.and_eq_true] at hk
        obtain ⟨e1, e2⟩ := fill_spec h
        refine ⟨cast_self hc, hk.2, ?_, fun q hq => ?_⟩
        · obtain ⟨eid, fr, e, xs⟩ := o
          have he := cast_self hc
          dsimp only at he hx hc ⊢
          subst he
          have := cast_same hc
          subst this
          rw [e1, hx]
          simp [Ty.cast]
        · have hg := e2 q hq
          have hm : (q.1, q.2.e) ∈ holesOf p 0 := by
            rw [← rowsOf_holes p y 0]
            exact List.mem_map.2 ⟨q, hq, rfl⟩
          obtain ⟨ro, k1, k2, k3, k4⟩ := rowsOk_mem hk.1 hm
          refine ⟨ro, k1, ?_, k2, k3, k4⟩
          unfold rowGet at hg
          rw [k1] at hg
          exact (Option.some.inj hg).symm
      · cases h
    · cases h
  · cases h
theorem rowTag_ne {bo : Option Nat} {k : Nat} : bo ≠ some (rowTag bo k) := by
  cases bo with
  | none => intro e; cases e
  | some g =>
    intro e
    have e : g = 100000 * (g + 1) + k := Option.some.inj e
    omega
theorem holes_key : ∀ {t : Ty} {k : Nat} {q : Nat × Ty}, q ∈ holesOf t k → k ≤ q.1 ∧ q.1 < k + t.size
  | .int _, _, _, h => by cases h
  | .bool, _, _, h => by cases h
  | .str, _, _, h => by cases h
  | .err _ _, _, _, h => by cases h
  | .eno _, _, _, h => by cases h
  | .arr _ _, _, _, h => by cases h
  | .ptr _, _, _, h => by cases h
  | .fn _ _, _, _, h => by cases h
  | .hole, _, _, h => by cases h
  | .sl e, k, q, h => by
    have h : q ∈ [(k, e)] := h
    rw [List.mem_singleton] at h
    subst h
    exact ⟨Nat.le_refl _, by show k < k + 1; omega⟩
  | .st p, k, q, h => holes_key (t := p) h
  | .pair a b, k, q, h => by
    have h : q ∈ holesOf a k ++ holesOf b (k + a.size) := h
    show k ≤ q.1 ∧ q.1 < k + (a.size + b.size)
    rcases List.mem_append.1 h with h | h
    · have := holes_key h; omega
    · have := holes_key h; omega
theorem rows_key {t : Ty} {x : t.I} {k : Nat} {q : Nat × Row} (h : q ∈ rowsOf t x k) : k ≤ q.1 ∧ q.1 < k + t.size := by
  have hm : (q.1, q.2.e) ∈ holesOf t k := by
    rw [← rowsOf_holes t x k]
    exact List.mem_map.2 ⟨q, h, rfl⟩
  exact holes_key hm
theorem rows_nodup : ∀ (t : Ty) (x : t.I) (k : Nat), ((rowsOf t x k).map fun q => q.1).Nodup
  | .int _, _, _ => List.nodup_nil
  | .bool, _, _ => List.nodup_nil
  | .str, _, _ => List.nodup_nil
  | .err _ _, _, _ => List.nodup_nil
  | .eno _, _, _ => List.nodup_nil
  | .arr _ _, _, _ => List.nodup_nil
  | .ptr _, _, _ => List.nodup_nil
  | .fn _ _, _, _ => List.nodup_nil
  | .hole, _, _ => List.nodup_nil
  | .sl _, _, k => by show [k].Nodup; simp
  | .st p, x, k => rows_nodup p x k
  | .pair a b, x, k => by
    show ((rowsOf a x.1 k ++ rowsOf b x.2 (k + a.size)).map fun q => q.1).Nodup
    rw [List.map_append]
    refine List.nodup_append.2 ⟨rows_nodup a x.1 k, rows_nodup b x.2 _, fun u hu v hv e => ?_⟩
    obtain ⟨q, hq, rfl⟩ := List.mem_map.1 hu
    obtain ⟨q', hq', rfl⟩ := List.mem_map.1 hv
    have h1 := rows_key hq
    have h2 := rows_key hq'
    omega
theorem nodup_tagsB : ∀ {l : List Nat}, nodupTags l = true → l.Nodup
  | [], _ => List.nodup_nil
  | k :: r, h => by
    unfold nodupTags at h
    simp only [Bool.and_eq_true, Bool.not_eq_true'] at h
    refine List.nodup_cons.2 ⟨fun hm => ?_, nodup_tagsB h.2⟩
    have : ∀ {l : List Nat}, k ∈ l → inList k l = true := by
      intro l
      induction l with
      | nil => intro h; cases h
      | cons a r ih =>
        intro h
        unfold inList
        split
        · rfl
        · rename_i hne
          rcases List.mem_cons.1 h with h | h
          · exact absurd (nbeq.2 h.symm) hne
          · exact ih h
    rw [this hm] at h
    cases h.1
theorem rowTags_mem {bo : Option Nat} {k : Nat} {ro : Nat × Obj} (hr : rowObj st bo k = some ro) : ∀ {l : List (Nat × Ty)}, (∃ e, (k, e) ∈ l) → ro.1 ∈ rowTagsOf st bo l
  | [], ⟨e, h⟩ => by cases h
  | (k', e') :: r, ⟨e, h⟩ => by
    unfold rowTagsOf
    rcases List.mem_cons.1 h with h | h
    · cases h
      rw [hr]
      simp
    · exact List.mem_append.2 (.inr (rowTags_mem hr ⟨e, h⟩))
theorem rowTags_inv {bo : Option Nat} {g : Nat} : ∀ {l : List (Nat × Ty)}, g ∈ rowTagsOf st bo l → ∃ k e ro, (k, e) ∈ l ∧ rowObj st bo k = some ro ∧ ro.1 = g
  | [], h => by cases h
  | (k', e') :: r, h => by
    unfold rowTagsOf at h
    rcases List.mem_append.1 h with h | h
    · split at h
      · rename_i ro hro
        rw [List.mem_singleton] at h
        exact ⟨k', e', ro, List.mem_cons_self, hro, h.symm⟩
      · cases h
    · obtain ⟨k, e, ro, h1, h2⟩ := rowTags_inv h
      exact ⟨k, e, ro, List.mem_cons_of_mem _ h1, h2⟩
theorem rowTags_inj {bo : Option Nat} : ∀ {l : List (Nat × Ty)}, (rowTagsOf st bo l).Nodup → ∀ {k k' : Nat} {e e' : Ty} {ro ro' : Nat × Obj}, (k, e) ∈ l → (k', e') ∈ l → rowObj st bo k = some ro → rowObj st bo k' = some ro' → ro.1 = ro'.1 → k = k'
  | [], _, _, _, _, _, _, _, h, _, _, _, _ => by cases h
  | (j, u) :: r, hn, k, k', e, e', ro, ro', h, h', hr, hr', heq => by
    unfold rowTagsOf at hn
    rcases List.mem_cons.1 h with h | h <;> rcases List.mem_cons.1 h' with h' | h'
    · cases h; cases h'; rfl
    · cases h
      rw [hr] at hn
      have := rowTags_mem hr' ⟨e', h'⟩
      exact absurd (heq ▸ this) (List.nodup_cons.1 hn).1
    · cases h'
      rw [hr'] at hn
      have := rowTags_mem hr ⟨e, h⟩
      exact absurd (heq ▸ this) (List.nodup_cons.1 hn).1
    · exact rowTags_inj (List.nodup_append.1 hn).2.1 h h' hr hr' heq
theorem owns_keep {base : Nat} {e : TypeId} {size : Nat} {v : Value} {n : Nat} {xs : List Value} (h : w.ownsRow base e size v n xs) (hk : ∀ b, v.ownBlock = some b → w'.heap[b]? = w.heap[b]?) : w'.ownsRow base e size v n xs := by
  obtain ⟨h1, h2⟩ := h
  refine ⟨h1, ?_⟩
  rcases h2 with h2 | ⟨g, cap, cur, e2, hB, hblk, r⟩
  · exact .inl h2
  · refine .inr ⟨g, cap, cur, e2, hB, ?_, r⟩
    rw [hk g (by rw [e2]; rfl)]
    exact hblk
theorem Slot1Rd.shift {M : Nat → Prop} {objs : List (Nat × Obj)} (hsz : w.heap.size ≤ w'.heap.size) (hb : ∀ b, b < w.heap.size → ¬ M b → w'.heap[b]? = w.heap[b]?) (hMS : ∀ b, M b → S b)
    (hMo : ∀ g o b, olook g objs = some o → (ν g).ownBlock = some b → ¬ M b) (hMX : ∀ b, X.v.ownBlock = some b → ¬ M b) (hS : ∀ b, b < w.heap.size → S' b → S b) {s : Slot} {v : Value} (h : Slot1Rd B X w S ν objs s v) : Slot1Rd B X w' S' ν objs s v := by
  have hBA : ∀ fr b, b < w.heap.size → ¬ Av S B fr b → w'.heap[b]? = w.heap[b]? := fun fr b hl hs => hb b hl fun hM => hs (.inl (hMS b hM))
  have hAv : ∀ fr b, b < w.heap.size → Av S' B fr b → Av S B fr b := fun fr b h hs => hs.imp (hS b h) id
  cases s with
  | undef => trivial
  | skip => exact h
  | lit b => exact h
  | val fr t x => exact RdV.keep hsz (hAv fr) (hBA fr) h
  | nil => exact h
  | nili => exact h
  | nilp => exact h
  | hv t x rows => exact ⟨h.1, h.2.1.flat h.1, h.2.2⟩
  | lenof _ => exact h
  | nn fr e xs => exact ⟨RdV.keep hsz (hAv fr) (hBA fr) h.1, h.2⟩
  | ref g => exact h
  | eptr g i path t snap => exact h
  | cptr fr t x =>
    obtain ⟨ad, h1, h2, h3, us, h4, h5⟩ := h
    exact ⟨ad, h1, fun e => h2 (hAv fr _ h3 e), Nat.lt_of_lt_of_le h3 hsz, us, h4.keep hsz (hAv fr) (hBA fr), fun i u hi => (cell_keep _ (hBA fr _ h3 h2)).trans (h5 i u hi)⟩
  | view g lo fr e xs =>
    obtain ⟨⟨o, h1⟩, h2, h3⟩ := h
    exact ⟨⟨o, h1⟩, RdV.keep hsz (fun b hl hs => ⟨hS b hl hs.1, hs.2⟩) (fun b hl hs => hb b hl fun hM => hs ⟨hMS b hM, fun e => hMo g o b h1 e hM⟩) h2, h3⟩
  | lref => exact h
  | leptr i e p t => exact h
  | lview lo e xs => exact ⟨RdV.keep hsz (fun b hl hs => ⟨hS b hl hs.1, hs.2⟩) (fun b hl hs => hb b hl fun hM => hs ⟨hMS b hM, fun e => hMX b e hM⟩) h.1, h.2⟩
  | tup ss => trivial
theorem Inv.shift (h : Inv B X w0 S ν st tmps w) {M : Nat → Prop} (hos : w'.os = w.os) (htp : w'.tape = w.tape) (hou : w'.output = w.output) (hsz : w.heap.size ≤ w'.heap.size) (hb : ∀ b, b < w.heap.size → ¬ M b → w'.heap[b]? = w.heap[b]?) (hMS : ∀ b, M b → S b)
    (hMo : ∀ g o b, olook g st.objs = some o → (ν g).ownBlock = some b → ¬ M b) (hMX : ∀ b, X.v.ownBlock = some b → ¬ M b) (hMB : ∀ b, M b → B ≤ b ∨ X.more b) (h1 : ∀ b, S b → S' b) (h2 : ∀ b, S' b → S b ∨ w.heap.size ≤ b) (h3 : ∀ b, S' b → b < w'.heap.size) :
    Inv B X w0 S' ν st tmps w' := by
  have hS : ∀ b, b < w.heap.size → S' b → S b := fun b hb hs => (h2 b hs).resolve_right (by omega)
  have hbase : B ≤ w.heap.size := Nat.le_trans h.base.1 h.fr.size
  have hBA : ∀ fr b, b < w.heap.size → ¬ Av S B fr b → w'.heap[b]? = w.heap[b]? := fun fr b hl hs => hb b hl fun hM => hs (.inl (hMS b hM))
  have hAv : ∀ fr b, b < w.heap.size → Av S' B fr b → Av S B fr b := fun fr b h hs => hs.imp (hS b h) id
  have hXk : ∀ b, X.v.ownBlock = some b → w'.heap[b]? = w.heap[b]? := fun b hx => hb b (h.lt b (h.lx b hx).1) (hMX b hx)
  have hk : Kept B X w w' := by
    refine ⟨hos, htp, hou, hsz, fun k hk hn hm => hb k (by omega) fun hM => ?_, fun q hq => ?_⟩
    · rcases hMB k hM with e | e
      · omega
      · exact hm e
    · obtain ⟨c1, c2, e, g1, g2, g3, g4⟩ := h.fr.win q hq
      exact ⟨c2, c2, e, g2, by rw [hXk q hq]; exact g2, rfl, fun _ _ => rfl⟩
  refine ⟨h.fr.trans hk, h.base, h.len, fun i s hi => ?_, fun g o ho => ?_, fun g o b ho hb => h1 b (h.own g o b ho hb), h3,
    fun o ho => (h.win o ho).grow hsz (hAv false) (hBA false) hXk, ⟨fun b hb => ⟨h1 b (h.lx b hb).1, (h.lx b hb).2⟩, fun b hb => ⟨h1 b (h.la b hb).1, (h.la b hb).2⟩⟩, fun b hb => ⟨h1 b (h.lm b hb).1, (h.lm b hb).2⟩, h.nw, fun q hq => ?_, h.sep⟩
  · obtain ⟨v, k1, k2⟩ := h.slot i s hi
    exact ⟨v, k1, SlotRd.map (f1 := id) (f := id) (fun ss => by simp) (fun _ _ => rfl) (fun s hs ss => hs ss) (fun s v hsv => Slot1Rd.shift hsz hb hMS hMo hMX hS hsv) k2⟩
  · obtain ⟨cs, k1, k2⟩ := h.obj g o ho
    exact ⟨cs, owns_keep k1 fun b hgb => hb b (h.lt b (h.own g o b ho hgb)) (hMo g o b ho hgb), k2.keep hsz (hAv o.fr) (hBA o.fr)⟩
  · refine (h.hole q hq).keep (fun b k hbx => ?_) (fun _ _ => ⟨rfl, fun o h => ⟨o, h⟩⟩) ⟨rfl, fun o h => ⟨o, h⟩⟩
    cases hbo : q.box with
    | none => rw [hbo] at hbx; exact hXk b hbx.none_blk
    | some g =>
      rw [hbo] at hbx
      obtain ⟨⟨p, hp⟩, hg⟩ := hbx.some_blk
      exact hb b (h.lt b (h.own g p b hp hg)) (hMo g p b hp hg)
theorem Inv.forget (h : Inv B X w0 S ν st tmps w) (tag : Nat) : Inv B X w0 S ν (st.forget tag) tmps w := by
  have hlook : ∀ g, g ≠ tag → olook g (odrop tag st.objs) = olook g st.objs := fun g hne => olook_drop_ne hne _
  have hback : ∀ g p, olook g (odrop tag st.objs) = some p → g ≠ tag ∧ olook g st.objs = some p := by
    intro g p hp
    by_cases e : g = tag
    · subst e; rw [olook_drop] at hp; cases hp
    · exact ⟨e, by rw [← hlook g e]; exact hp⟩
  refine ⟨h.fr, h.base, by simpa [St.forget] using h.len, ?_, fun g p hp => h.obj g p (hback g p hp).2, fun g p b hp => h.own g p b (hback g p hp).2, h.lt, h.win, h.lx2, h.lm, fun g p b hp => h.nw g p b (hback g p hp).2, fun q hq => ?_,
    fun g k p q b hp hq => h.sep g k p q b (hback g p hp).2 (hback k q hq).2⟩
  · intro i s hi
    simp only [St.forget, List.getElem?_map] at hi
    cases hu : st.env[i]? with
    | none => rw [hu] at hi; cases hi
    | some u =>
      rw [hu] at hi
      cases hi
      obtain ⟨x, hx, hrd⟩ := h.slot i u hu
      refine ⟨x, hx, SlotRd.map (f1 := Slot.poison1 tag) (fun _ => rfl) (fun s hs => ?_) (fun s _ ss => poison1_tup tag s ss) (fun s v hsv => ?_) hrd⟩
      · cases s <;> first | rfl | exact absurd rfl (hs _)
      · have hm := fun (s' : Slot) (hsv' : Slot1Rd B X w S ν st.objs s' v) (hns : ∀ t x rows, s' ≠ .hv t x rows) ho => Slot1Rd.mono (w' := w) (S' := S) (ν' := ν) (objs' := odrop tag st.objs) (World.grownBy.refl w none) (fun b _ hs => hs) hsv' ho (.inl hns)
        cases s with
        | ref g =>
          show Slot1Rd _ _ _ _ _ _ (if Nat.beq g tag = true then .undef else .ref g) v
          by_cases e : g = tag
          · rw [if_pos (nbeq.2 e)]; trivial
          · rw [if_neg (by rw [nbeq]; exact e)]
            refine hm _ hsv (fun _ _ _ e => by cases e) fun k hk => ⟨hlook k ?_, rfl⟩
            rcases hk with ⟨_, hk | ⟨_, _, _, _, hk⟩ | ⟨⟨_, _, _, _, hk⟩, _⟩⟩ <;> cases hk
            exact e
        | eptr g i p u q =>
          show Slot1Rd _ _ _ _ _ _ (if Nat.beq g tag = true then .undef else .eptr g i p u q) v
          by_cases e : g = tag
          · rw [if_pos (nbeq.2 e)]; trivial
          · rw [if_neg (by rw [nbeq]; exact e)]
            refine hm _ hsv (fun _ _ _ e => by cases e) fun k hk => ⟨hlook k ?_, rfl⟩
            rcases hk with ⟨_, hk | ⟨_, _, _, _, hk⟩ | ⟨⟨_, _, _, _, hk⟩, _⟩⟩ <;> cases hk
            exact e
        | view g l a b c =>
          show Slot1Rd _ _ _ _ _ _ (if Nat.beq g tag = true then .undef else .view g l a b c) v
          by_cases e : g = tag
          · rw [if_pos (nbeq.2 e)]; trivial
          · rw [if_neg (by rw [nbeq]; exact e)]
            refine hm _ hsv (fun _ _ _ e => by cases e) fun k hk => ⟨hlook k ?_, rfl⟩
            rcases hk with ⟨_, hk | ⟨_, _, _, _, hk⟩ | ⟨⟨_, _, _, _, hk⟩, _⟩⟩ <;> cases hk
            exact e
        | tup ss => trivial
        | hv t x rows =>
          show Slot1Rd _ _ _ _ _ _ (if hasRow tag rows = true then .undef else .hv t x rows) v
          by_cases e : hasRow tag rows = true
          · rw [if_pos e]; trivial
          · rw [if_neg e]
            refine ⟨hsv.1, hsv.2.1.flat hsv.1, fun q hq => ?_⟩
            obtain ⟨h1, o', h2⟩ := hsv.2.2 q hq
            exact ⟨h1, o', (hlook _ fun e' => e (hasRow_mem hq e')).trans h2⟩
        | _ =>
          refine hm _ hsv (fun _ _ _ e => by cases e) fun k hk => ?_
          rcases hk with ⟨_, hk | ⟨_, _, _, _, hk⟩ | ⟨⟨_, _, _, _, hk⟩, _⟩⟩ <;> cases hk
  · obtain ⟨hq, hq1, hq2⟩ := mem_dropH hq
    exact (h.hole q hq).keep (fun _ _ _ => rfl) (fun g hg => ⟨rfl, fun p hp => ⟨p, (hlook g fun e => hq1 (by rw [hg, e])).trans hp⟩⟩) ⟨rfl, fun p hp => ⟨p, (hlook _ hq2).trans hp⟩⟩
theorem Inv.forgets : ∀ {l : List Nat} {st : St}, Inv B X w0 S ν st tmps w →
    Inv B X w0 S ν (forgetAll l st) tmps w ∧ (forgetAll l st).lent = st.lent ∧ ∀ g p, olook g (forgetAll l st).objs = some p ↔ (g ∉ l ∧ olook g st.objs = some p)
  | [], st, h => ⟨h, rfl, fun g p => ⟨fun h => ⟨(fun h => by cases h), h⟩, fun h => h.2⟩⟩
  | t :: r, st, h => by
    obtain ⟨h1, h2, h3⟩ := Inv.forgets (l := r) (h.forget t)
    refine ⟨h1, h2, fun g p => ?_⟩
    show olook g (forgetAll r (st.forget t)).objs = some p ↔ _
    rw [h3]
    show g ∉ r ∧ olook g (odrop t st.objs) = some p ↔ _
    constructor
    · rintro ⟨a, b⟩
      by_cases e : g = t
      · subst e; rw [olook_drop] at b; cases b
      · rw [olook_drop_ne e] at b
        exact ⟨fun h => (List.mem_cons.1 h).elim e a, b⟩
    · rintro ⟨a, b⟩
      have e : g ≠ t := fun e => a (by rw [e]; exact List.mem_cons_self)
      exact ⟨fun h => a (List.mem_cons_of_mem _ h), by rw [olook_drop_ne e]; exact b⟩
theorem rows_lay {bo : Option Nat} {b k0 : Nat} {hs : List (Nat × TypeId)} {rv : Nat → Value} : ∀ {l : List (Nat × Row)} {ν : Nat → Value} {st : St}, Inv B X w0 S ν st tmps w → BoxAt X ν st.objs bo b k0 →
    (∀ q ∈ l, w.cell? ⟨b, k0 + q.1, none⟩ = some (rv q.1)) → (∀ q ∈ l, ObjRd 0 w (fun _ => False) (rv q.1) ⟨eidAt hs q.1, true, q.2.e, q.2.xs⟩ ∧ q.2.e.flat = true) →
    (∀ q ∈ l, ∀ c, (rv q.1).ownBlock = some c → S c ∧ (B ≤ c ∨ (bo = none ∧ X.more c)) ∧ ∀ g p, olook g st.objs = some p → (ν g).ownBlock ≠ some c) →
    (∀ q ∈ l, ∀ q' ∈ l, ∀ c, (rv q.1).ownBlock = some c → (rv q'.1).ownBlock = some c → q.1 = q'.1) → (l.map fun q => q.1).Nodup → ∃ ν', Inv B X w0 S ν' (layRows bo hs l st) tmps w
  | [], ν, st, h, _, _, _, _, _, _ => ⟨ν, h⟩
  | (k, r) :: l, ν, st, h, hb, hc, ho, hd, ha, hn => by
    obtain ⟨ho1, hf⟩ := ho _ List.mem_cons_self
    dsimp only at ho1 hf
    have hobj : ObjRd B w S (rv k) ⟨eidAt hs k, true, r.e, r.xs⟩ := by
      obtain ⟨cs, k1, k2⟩ := ho1
      exact ⟨cs, k1, k2.flat hf⟩
    have hd1 := hd _ List.mem_cons_self
    have h1 := h.adopt (rowTag bo k) hobj (fun c hc => (hd1 c hc).1) (fun g p c _ hp hg hc => (hd1 c hc).2.2 g p hp hg) (fun c hc => by
      rcases (hd1 c hc).2.1 with e | ⟨e1, e2⟩
      · exact .inl e
      · subst e1
        exact .inr ⟨by show Nat.ble 1000000000000000 (1000000000000000 + k) = true; exact Nat.ble_eq_true_of_le (by omega), e2⟩)
    have hbx : BoxAt X (upd ν (rowTag bo k) (rv k)) (st.new (rowTag bo k) ⟨eidAt hs k, true, r.e, r.xs⟩).objs bo b k0 := by
      have hne := rowTag_ne (bo := bo) (k := k)
      cases bo with
      | none => exact hb
      | some g =>
        have hne : g ≠ rowTag (some g) k := fun e => hne (congrArg some e)
        obtain ⟨⟨o, ho⟩, hv, hk⟩ := hb
        exact ⟨hexs g o ho, by rw [upd_ne hne]; exact hv, hk⟩
    have h2 := h1.rehole (hs := ⟨bo, k, rowTag bo k⟩ :: (st.new (rowTag bo k) ⟨eidAt hs k, true, r.e, r.xs⟩).holes) (fun q hq => by
      rcases List.mem_cons.1 hq with hq | hq
      · subst hq
        exact ⟨b, k0, hbx, by rw [upd_same]; exact hc _ List.mem_cons_self, _, look_new⟩
      · exact h1.hole q hq)
    rw [List.map_cons, List.nodup_cons] at hn
    refine rows_lay (l := l) h2 hbx (fun q hq => hc q (List.mem_cons_of_mem _ hq)) (fun q hq => ho q (List.mem_cons_of_mem _ hq)) (fun q hq c hqc => ?_) (fun q hq q' hq' => ha q (List.mem_cons_of_mem _ hq) q' (List.mem_cons_of_mem _ hq')) hn.2
    obtain ⟨e1, e2, e3⟩ := hd q (List.mem_cons_of_mem _ hq) c hqc
    refine ⟨e1, e2, fun g p hp hg => ?_⟩
    rcases olook_new hp with ⟨rfl, _⟩ | ⟨hne, hp⟩
    · rw [upd_same] at hg
      have := ha _ List.mem_cons_self q (List.mem_cons_of_mem _ hq) c hg hqc
      exact hn.1 (List.mem_map.2 ⟨q, hq, this.symm⟩)
    · rw [upd_ne hne] at hg
      exact e3 g p hp hg
theorem flat_blocks : ∀ {rs : List RTy} {vs : List Value}, flatRs rs = true → rowBlocks rs vs = []
  | [], vs, _ => by cases vs <;> rfl
  | .v t :: r, [], _ => rfl
  | .v t :: r, v :: vs, h => by
    unfold flatRs at h
    rw [Bool.and_eq_true] at h
    show rowBlocks r vs = []
    exact flat_blocks h.2
  | .row _ _ :: _, _, h => by cases h
theorem flat_list {B1 B2 : Nat} {S1 S2 : Nat → Prop} : ∀ {rs : List RTy} {x : RTys.I rs} {vs : List Value}, flatRs rs = true → RetList B1 w S1 rs x vs → RetList B2 w S2 rs x vs
  | [], _, _, _, h => h
  | [.v t], x, vs, hf, h => by
    unfold flatRs at hf
    rw [Bool.and_eq_true] at hf
    obtain ⟨v, e, h1⟩ := h
    exact ⟨v, e, RdV.flat hf.1 h1⟩
  | .v t :: s :: q, x, vs, hf, h => by
    unfold flatRs at hf
    rw [Bool.and_eq_true] at hf
    obtain ⟨v, us, e, h1, h2⟩ := h
    exact ⟨v, us, e, RdV.flat hf.1 h1, flat_list hf.2 h2⟩
  | [.row _ _], _, _, hf, _ => by cases hf
  | .row _ _ :: _ :: _, _, _, hf, _ => by cases hf
def rowsV (ν : Nat → Value) (st : St) (bo : Option Nat) (k : Nat) : Value := match rowObj st bo k with | some ro => ν ro.1 | none => undef
theorem rowsV_of {bo : Option Nat} {k : Nat} {ro : Nat × Obj} (h : rowObj st bo k = some ro) : rowsV ν st bo k = ν ro.1 := by
  unfold rowsV; rw [h]
theorem rows_given (h : Inv B X w0 S ν st tmps w) {bo : Option Nat} {b k0 : Nat} (hb : BoxAt X ν st.objs bo b k0) {o : Obj} {hs : List (Nat × TypeId)} {tk : Bool} {p : Ty} {y : p.I} (hy : boxFull st bo o hs tk p = some y) (hn : (rowTagsOf st bo (holesOf p 0)).Nodup) :
    RowsRd w b k0 (rowsV ν st bo) hs (rowsOf p y 0) := by
  obtain ⟨_, _, _, q4⟩ := boxFull_spec hy
  refine ⟨fun q hq => ?_, fun q hq => ?_, fun q hq => ?_, fun q hq q' hq' c hc hc' => ?_⟩
  · obtain ⟨ro, k1, _⟩ := q4 q hq
    rw [rowsV_of k1]
    exact (h.rowAt k1 hb).1
  · obtain ⟨ro, k1, k2, k3, k4, _⟩ := q4 q hq
    rw [rowsV_of k1]
    have h1 := h.obj _ _ (h.rowAt k1 hb).2
    obtain ⟨cs, g1, g2⟩ := h1
    rw [k2, ← k3]
    exact ⟨cs, g1, g2.flat k4⟩
  · obtain ⟨ro, k1, k2, k3, k4, _⟩ := q4 q hq
    rw [k2]; exact k4
  · obtain ⟨ro, k1, _⟩ := q4 q hq
    obtain ⟨ro', k1', _⟩ := q4 q' hq'
    rw [rowsV_of k1] at hc
    rw [rowsV_of k1'] at hc'
    have e := h.sep _ _ _ _ c (h.rowAt k1 hb).2 (h.rowAt k1' hb).2 hc hc'
    have hm : ∀ {q : Nat × Row}, q ∈ rowsOf p y 0 → (q.1, q.2.e) ∈ holesOf p 0 := fun {q} hq => by
      rw [← rowsOf_holes p y 0]
      exact List.mem_map.2 ⟨q, hq, rfl⟩
    exact rowTags_inj hn (hm hq) (hm hq') k1 k1' e
theorem rows_blocks (h : Inv B X w0 S ν st tmps w) {bo : Option Nat} {b k0 : Nat} (hb : BoxAt X ν st.objs bo b k0) {o : Obj} {hs : List (Nat × TypeId)} {tk : Bool} {p : Ty} {y : p.I} (hy : boxFull st bo o hs tk p = some y) {q : Nat × Row} (hq : q ∈ rowsOf p y 0) {c : Nat} (hc : (rowsV ν st bo q.1).ownBlock = some c) :
    ∃ g r, g ∈ rowTagsOf st bo (holesOf p 0) ∧ olook g st.objs = some r ∧ (ν g).ownBlock = some c ∧ (tk = true ∨ isTk g = false) := by
  obtain ⟨_, _, _, q4⟩ := boxFull_spec hy
  obtain ⟨ro, k1, _, _, _, k5⟩ := q4 q hq
  rw [rowsV_of k1] at hc
  have hm : (q.1, q.2.e) ∈ holesOf p 0 := by
    rw [← rowsOf_holes p y 0]
    exact List.mem_map.2 ⟨q, hq, rfl⟩
  exact ⟨ro.1, ro.2, rowTags_mem k1 ⟨_, hm⟩, (h.rowAt k1 hb).2, hc, k5⟩
theorem ObjRd.box {b n cap : Nat} {v : Value} {o : Obj} {e : Ty} {x : e.I} (h : ObjRd B w S v o) (hv : v = .slice (some ⟨b, 0, none⟩) n cap) (hx : Ty.cast (.sl o.e) (.sl e) o.xs = some [x]) :
    ∃ cs cur, w.heap[b]? = some (.cells cur o.eid (0, 0)) ∧ RowRd w (Av S B o.fr) e [x] cs ∧ (cur.toList.drop 0).take (1 * e.size) = cs ∧ 1 ≤ cap ∧ 0 + 1 * e.size ≤ cur.size ∧ cur.size = cap * e.size ∧ cap ≤ maxLen ∧ n = 1 ∧ o.e = e := by
  obtain ⟨eid, fr, e', xs'⟩ := o
  have he : Ty.sl e' = Ty.sl e := cast_self hx
  have he : e' = e := by injection he
  subst he
  have : xs' = [x] := cast_same hx
  subst this
  obtain ⟨cs, hown, hrow⟩ := h
  rcases hown.2 with ⟨e2, _⟩ | ⟨g, capo, cur, e2, hBg, hblk, hnc, hcm, hcsz, htake⟩
  · rw [hv] at e2; cases e2
  · rw [hv] at e2
    injection e2 with e2 e3 e4
    injection e2 with e2
    injection e2 with e2 _ _
    subst e2 e3 e4
    have h1 : 1 ≤ cap := hnc
    have hsz : 1 * e'.size ≤ cap * e'.size := Nat.mul_le_mul_right _ h1
    exact ⟨cs, cur, hblk, hrow, by simpa using htake, h1, by dsimp only at hcsz; omega, hcsz, hcm, rfl, rfl⟩
theorem restored' {b : Nat} {X' : Lnt} (hK : Kept w.heap.size X' w w') (hX : X'.v.ownBlock = some b) : ∃ w1 : World, w1.os = w.os ∧ w1.tape = w.tape ∧ w1.output = w.output ∧ (∀ c, c < w.heap.size → ¬ (X'.more c ∧ c ≠ b) → w1.heap[c]? = w.heap[c]?) ∧ w1.grownBy w' (some b) ∧ w1.heap.size = w'.heap.size := by
  obtain ⟨cur, cur', eid, g1, g2, g3, _⟩ := hK.win b hX
  have hb := setRow_heap w' b cur' cur eid (0, 0) g2
  refine ⟨w'.setRow b cur, hK.os, hK.tape, hK.output, fun k hk hm => ?_, ⟨rfl, rfl, rfl, by simp, fun k _ hne => (setRow_other w' b k _ (fun e => hne (by rw [e]))).symm⟩, by simp⟩
  by_cases e : k = b
  · rw [e, hb, g1]
  · rw [setRow_other w' b k _ e]
    exact hK.block k hk (fun h => e (by rw [hX] at h; cases h; rfl)) (fun h => hm ⟨h, e⟩)
theorem behind_hown (h : Inv B X w0 S ν st tmps w) {tag : Nat} {o : Obj} {b n cap : Nat} (ho : olook tag st.objs = some o) (hv : ν tag = .slice (some ⟨b, 0, none⟩) n cap) {p : Ty} {hs : List (Nat × TypeId)} {y z : p.I} {rv : Nat → Value} {rs : List RTy} {r : RTys.I rs} {v : Value} {vs : List Value} {d : Option Tmp}
    (hfull : boxFull st (some tag) o hs false p = some y) (hnd : (tag :: rowTagsOf st (some tag) (holesOf p 0)).Nodup)
    (hK : Kept w.heap.size (boxLnt b 0 (holeT p).size (rowsV ν st (some tag)) (rowsOf p y 0)) w w') (hwin : WinRd w' S (boxLnt b 0 (holeT p).size (rowsV ν st (some tag)) (rowsOf p y 0)) ⟨o.eid, false, holeT p, [strip p z]⟩) (hrows : RowsRd w' b 0 rv hs (rowsOf p z 0))
    (hnew : ∀ q ∈ rowsOf p z 0, ∀ c, (rv q.1).ownBlock = some c → (∃ q' ∈ rowsOf p y 0, (rowsV ν st (some tag) q'.1).ownBlock = some c) ∨ w.heap.size ≤ c) (hret : RetOf w.heap.size w' rs r v vs) (hfl : flatRs rs = true) (hr : (evResult (st.backH (some tag) o p hs z) d rs r).run = some st') :
    ∃ S' ν', Inv B X w0 S' ν' st' (Act.put ⟨tmps, ds⟩ d v).tmps w' := by
  obtain ⟨q1, q2, q3, q4⟩ := boxFull_spec hfull
  have hbx : BoxAt X ν st.objs (some tag) b 0 := ⟨⟨_, ho⟩, ⟨n, cap, hv⟩, rfl⟩
  have hbb : (ν tag).ownBlock = some b := by rw [hv]; rfl
  have hbase : B ≤ w.heap.size := Nat.le_trans h.base.1 h.fr.size
  have hnd2 := (List.nodup_cons.1 hnd).2
  have hXb : (boxLnt b 0 (holeT p).size (rowsV ν st (some tag)) (rowsOf p y 0)).v.ownBlock = some b := rfl
  obtain ⟨w1, g1, g2, g3, g4, g5, g6⟩ := restored' hK hXb
  -- what was known of the rows is forgotten
  obtain ⟨h1, _, hobjs⟩ := Inv.forgets (l := rowTagsOf st (some tag) (holesOf p 0)) h
  have hmore : ∀ c, (boxLnt b 0 (holeT p).size (rowsV ν st (some tag)) (rowsOf p y 0)).more c → ∃ g r, g ∈ rowTagsOf st (some tag) (holesOf p 0) ∧ olook g st.objs = some r ∧ (ν g).ownBlock = some c ∧ isTk g = false := by
    rintro c ⟨q, hq, hc⟩
    obtain ⟨g, r, m1, m2, m3, m4⟩ := rows_blocks h hbx hfull hq hc
    exact ⟨g, r, m1, m2, m3, m4.resolve_left (by simp)⟩
  have hlt : ∀ q ∈ rowsOf p z 0, ∀ c, (rv q.1).ownBlock = some c → c < w'.heap.size := fun q hq c hc => by
    obtain ⟨cs, k1, _⟩ := hrows.obj q hq
    exact (k1.lt c hc).2
  have h2 : Inv B X w0 (fun c => S c ∨ ∃ q ∈ rowsOf p z 0, (rv q.1).ownBlock = some c) ν (forgetAll (rowTagsOf st (some tag) (holesOf p 0)) st) tmps w1 := by
    refine h1.shift (M := fun c => (boxLnt b 0 (holeT p).size (rowsV ν st (some tag)) (rowsOf p y 0)).more c ∧ c ≠ b) g1 g2 g3 (by rw [g6]; exact hK.size) g4 (fun c hc => ?_) (fun g r c hg hgc hM => ?_) (fun c hc hM => ?_) (fun c hc => ?_) (fun c hc => .inl hc) (fun c hc => ?_) (fun c hc => ?_)
    · obtain ⟨g, r, _, m2, m3, _⟩ := hmore c hc.1
      exact h.own g r c m2 m3
    · obtain ⟨g', r', m1, m2, m3, _⟩ := hmore c hM.1
      obtain ⟨hn1, hg1⟩ := (hobjs g r).1 hg
      have := h.sep g g' r r' c hg1 m2 hgc m3
      subst this
      exact hn1 m1
    · obtain ⟨g', r', m1, m2, m3, _⟩ := hmore c hM.1
      exact h.notX m2 m3 hc
    · obtain ⟨g', r', m1, m2, m3, m4⟩ := hmore c hc.1
      exact .inl ((h.nw g' r' c m2 m3).resolve_right fun e => by rw [m4] at e; cases e.1)
    · rcases hc with hc | ⟨q, hq, hc⟩
      · exact .inl hc
      · rcases hnew q hq c hc with ⟨q', hq', hc'⟩ | e
        · obtain ⟨g', r', m1, m2, m3, _⟩ := hmore c ⟨q', hq', hc'⟩
          exact .inl (h.own g' r' c m2 m3)
        · exact .inr e
    · rw [g6]
      rcases hc with hc | ⟨q, hq, hc⟩
      · exact Nat.lt_of_lt_of_le (h.lt c hc) hK.size
      · exact hlt q hq c hc
  -- the box turns
  have ho1 : olook tag (forgetAll (rowTagsOf st (some tag) (holesOf p 0)) st).objs = some o := (hobjs tag o).2 ⟨(List.nodup_cons.1 hnd).1, ho⟩
  obtain ⟨cs, cur, c1, c2, c3, c4, c5, c6, c7, c8, c9⟩ := (h.obj tag o ho).box hv q3
  have hbox : ObjRd B w' (fun c => S c ∨ ∃ q ∈ rowsOf p z 0, (rv q.1).ownBlock = some c) (ν tag) ⟨o.eid, true, holeT p, [strip p z]⟩ := by
    obtain ⟨cy, d1, d2, d3⟩ := hwin
    rcases d3 with ⟨e, _⟩ | ⟨b2, cap2, cur', e1, _, e3, e4, e5, e6⟩
    · cases e
    · dsimp only [boxLnt] at e1 e3 e4 e5 e6
      injection e1 with e1
      injection e1 with e1
      injection e1 with e1
      subst e1
      obtain ⟨d1', d1'', d2', d3', d4', d5', _⟩ := hK.win b rfl
      rw [c1] at d3'
      rw [e4] at d4'
      injection d3' with d3'
      injection d3' with d3' d3''
      injection d4' with d4'
      injection d4' with d4' d4''
      refine ⟨cy, ⟨d1, .inr ⟨b, cap, cur', by rw [hv, c8]; rfl, by omega, e4, c4, c7, ?_, ?_⟩⟩, d2.flat q2⟩
      · dsimp only
        rw [d4', d5', ← d3', c6]
      · rw [← e6]
        simp
  have h3 := h2.turn ho1 (o' := ⟨o.eid, true, holeT p, [strip p z]⟩) q1.symm (by
    obtain ⟨eid, fr, e', xs'⟩ := o
    have he := cast_self q3
    dsimp only at he
    cases he
    have := cast_same q3
    dsimp only at this ⊢
    rw [this]
    rfl) g5 (fun c hc => by cases hc; exact hbb) hbox
  -- its rows are laid
  have hobj3 : ∀ g r, olook g ((forgetAll (rowTagsOf st (some tag) (holesOf p 0)) st).turn tag ⟨o.eid, true, holeT p, [strip p z]⟩).objs = some r → ∃ r', g ∉ rowTagsOf st (some tag) (holesOf p 0) ∧ olook g st.objs = some r' := by
    intro g r hg
    rcases olook_new hg with ⟨rfl, _⟩ | ⟨_, hg⟩
    · exact ⟨o, (List.nodup_cons.1 hnd).1, ho⟩
    · exact ⟨r, (hobjs g r).1 hg⟩
  obtain ⟨ν4, h4⟩ := rows_lay (bo := some tag) (b := b) (k0 := 0) (hs := hs) (rv := rv) (l := rowsOf p z 0) h3 ⟨⟨_, look_new'⟩, ⟨n, cap, hv⟩, rfl⟩ hrows.cell (fun q hq => ⟨hrows.obj q hq, hrows.flat q hq⟩) (fun q hq c hc => by
    refine ⟨.inr ⟨q, hq, hc⟩, .inl ?_, fun g r hg hgc => ?_⟩
    · rcases hnew q hq c hc with ⟨q', hq', hc'⟩ | e
      · obtain ⟨g', r', m1, m2, m3, m4⟩ := hmore c ⟨q', hq', hc'⟩
        exact (h.nw g' r' c m2 m3).resolve_right fun e => by rw [m4] at e; cases e.1
      · omega
    · obtain ⟨r', hn1, hg1⟩ := hobj3 g r hg
      rcases hnew q hq c hc with ⟨q', hq', hc'⟩ | e
      · obtain ⟨g', r2, m1, m2, m3, _⟩ := hmore c ⟨q', hq', hc'⟩
        have := h.sep g g' r' r2 c hg1 m2 hgc m3
        subst this
        exact hn1 m1
      · have := h.lt c (h.own g r' c hg1 hgc)
        omega) hrows.apart (rows_nodup p z 0)
  -- the results take their slots
  obtain ⟨hv1, hnd1, hlist⟩ := hret
  have hblk := flat_blocks (vs := vs) hfl
  have h5 := h4.widen (S' := fun c => (S c ∨ ∃ q ∈ rowsOf p z 0, (rv q.1).ownBlock = some c) ∨ c ∈ rowBlocks rs vs) (World.grownBy.refl w' none) (fun c hc => .inl hc) (fun c hc => by
    rcases hc with hc | hc
    · exact .inl hc
    · rw [hblk] at hc; cases hc) (fun c hc => by
    rcases hc with hc | hc
    · exact h4.lt c hc
    · rw [hblk] at hc; cases hc)
  obtain ⟨ν5, h6⟩ := evResult_ok (ds := ds) (B' := w'.heap.size) (Nat.le_trans hbase hK.size) h5 hv1 hnd1 (flat_list hfl hlist) (fun c hc => by
    rcases hc with hc | hc
    · exact .inr (h4.lt c hc)
    · exact .inl hc) (fun c hc => by rw [hblk] at hc; cases hc) hr
  exact ⟨_, ν5, h6⟩
theorem WinRd.box {b n cap : Nat} {o : Obj} {e : Ty} {x : e.I} {S1 : Nat → Prop} (h : WinRd w S1 X o) (hv : X.v = .slice (some ⟨b, X.k, none⟩) n cap) (hx : Ty.cast (.sl o.e) (.sl e) o.xs = some [x]) :
    ∃ cs cur, w.heap[b]? = some (.cells cur o.eid (0, 0)) ∧ cs.length = 1 * e.size ∧ RowRd w S1 e [x] cs ∧ (cur.toList.drop X.k).take (1 * e.size) = cs ∧ 1 ≤ cap ∧ X.k + 1 * e.size ≤ cur.size ∧ X.n = 1 * e.size ∧ n = 1 ∧ o.e = e := by
  obtain ⟨eid, fr, e', xs'⟩ := o
  have he : Ty.sl e' = Ty.sl e := cast_self hx
  have he : e' = e := by injection he
  subst he
  have : xs' = [x] := cast_same hx
  subst this
  obtain ⟨cs, hl, hrow, hw⟩ := h
  rcases hw with ⟨e2, _⟩ | ⟨g, capo, cur, e2, hnc, hXn, hblk, hsz, hcs⟩
  · rw [hv] at e2; cases e2
  · rw [hv] at e2
    injection e2 with e2 e3 e4
    injection e2 with e2
    injection e2 with e2 _ _
    subst e2 e3 e4
    rw [hXn] at hsz hcs
    exact ⟨cs, cur, hblk, hl, hrow, hcs, hnc, hsz, hXn, rfl, rfl⟩
theorem behind_hlent (h : Inv B X w0 S ν st tmps w) {o : Obj} {b n cap : Nat} (ho : st.lent = some o) (hv : X.v = .slice (some ⟨b, X.k, none⟩) n cap) {p : Ty} {hs : List (Nat × TypeId)} {y z : p.I} {rv : Nat → Value} {rs : List RTy} {r : RTys.I rs} {v : Value} {vs : List Value} {d : Option Tmp}
    (hfull : boxFull st none o hs true p = some y) (hnd : (rowTagsOf st none (holesOf p 0)).Nodup)
    (hK : Kept w.heap.size (boxLnt b X.k (holeT p).size (rowsV ν st none) (rowsOf p y 0)) w w') (hwin : WinRd w' S (boxLnt b X.k (holeT p).size (rowsV ν st none) (rowsOf p y 0)) ⟨o.eid, false, holeT p, [strip p z]⟩) (hrows : RowsRd w' b X.k rv hs (rowsOf p z 0))
    (hnew : ∀ q ∈ rowsOf p z 0, ∀ c, (rv q.1).ownBlock = some c → (∃ q' ∈ rowsOf p y 0, (rowsV ν st none q'.1).ownBlock = some c) ∨ w.heap.size ≤ c) (hret : RetOf w.heap.size w' rs r v vs) (hfl : flatRs rs = true) (hr : (evResult (st.backH none o p hs z) d rs r).run = some st') :
    ∃ S' ν', Inv B X w0 S' ν' st' (Act.put ⟨tmps, ds⟩ d v).tmps w' := by
  obtain ⟨q1, q2, q3, q4⟩ := boxFull_spec hfull
  have hbx : BoxAt X ν st.objs none b X.k := ⟨⟨n, cap, hv⟩, rfl⟩
  have hbb : X.v.ownBlock = some b := by rw [hv]; rfl
  have hbase : B ≤ w.heap.size := Nat.le_trans h.base.1 h.fr.size
  have hXb : (boxLnt b X.k (holeT p).size (rowsV ν st none) (rowsOf p y 0)).v.ownBlock = some b := rfl
  obtain ⟨w1, g1, g2, g3, g4, g5, g6⟩ := restored' hK hXb
  obtain ⟨h1, _, hobjs⟩ := Inv.forgets (l := rowTagsOf st none (holesOf p 0)) h
  have hmore : ∀ c, (boxLnt b X.k (holeT p).size (rowsV ν st none) (rowsOf p y 0)).more c → ∃ g r, g ∈ rowTagsOf st none (holesOf p 0) ∧ olook g st.objs = some r ∧ (ν g).ownBlock = some c := by
    rintro c ⟨q, hq, hc⟩
    obtain ⟨g, r, m1, m2, m3, m4⟩ := rows_blocks h hbx hfull hq hc
    exact ⟨g, r, m1, m2, m3⟩
  have hlt : ∀ q ∈ rowsOf p z 0, ∀ c, (rv q.1).ownBlock = some c → c < w'.heap.size := fun q hq c hc => by
    obtain ⟨cs, k1, _⟩ := hrows.obj q hq
    exact (k1.lt c hc).2
  have h2 : Inv B X w0 (fun c => S c ∨ ∃ q ∈ rowsOf p z 0, (rv q.1).ownBlock = some c) ν (forgetAll (rowTagsOf st none (holesOf p 0)) st) tmps w1 := by
    refine h1.shift (M := fun c => (boxLnt b X.k (holeT p).size (rowsV ν st none) (rowsOf p y 0)).more c ∧ c ≠ b) g1 g2 g3 (by rw [g6]; exact hK.size) g4 (fun c hc => ?_) (fun g r c hg hgc hM => ?_) (fun c hc hM => ?_) (fun c hc => ?_) (fun c hc => .inl hc) (fun c hc => ?_) (fun c hc => ?_)
    · obtain ⟨g, r, _, m2, m3⟩ := hmore c hc.1
      exact h.own g r c m2 m3
    · obtain ⟨g', r', m1, m2, m3⟩ := hmore c hM.1
      obtain ⟨hn1, hg1⟩ := (hobjs g r).1 hg
      have := h.sep g g' r r' c hg1 m2 hgc m3
      subst this
      exact hn1 m1
    · obtain ⟨g', r', m1, m2, m3⟩ := hmore c hM.1
      exact h.notX m2 m3 hc
    · obtain ⟨g', r', m1, m2, m3⟩ := hmore c hc.1
      exact (h.nw g' r' c m2 m3).imp id fun e => e.2
    · rcases hc with hc | ⟨q, hq, hc⟩
      · exact .inl hc
      · rcases hnew q hq c hc with ⟨q', hq', hc'⟩ | e
        · obtain ⟨g', r', m1, m2, m3⟩ := hmore c ⟨q', hq', hc'⟩
          exact .inl (h.own g' r' c m2 m3)
        · exact .inr e
    · rw [g6]
      rcases hc with hc | ⟨q, hq, hc⟩
      · exact Nat.lt_of_lt_of_le (h.lt c hc) hK.size
      · exact hlt q hq c hc
  -- what is lent turns
  obtain ⟨cs, cur, c1, c2, c3, c4, c5, c6, c7, c8, c9⟩ := (h.win o ho).box hv q3
  have hw1b : w1.heap[b]? = w.heap[b]? := g4 b (h.lt b (h.lx b hbb).1) fun hm => hm.2 rfl
  obtain ⟨d1', d1'', d2', d3', d4', d5', d6'⟩ := hK.win b rfl
  have hk1 : Kept B X w1 w' := by
    refine ⟨g5.os, g5.tape, g5.output, g5.size, fun k hk hn _ => g5.block k (by rw [g6]; have := hK.size; omega) (fun e => hn (by cases e; exact hbb)), fun q hq => ?_⟩
    rw [hbb] at hq
    cases hq
    refine ⟨d1', d1'', d2', by rw [hw1b]; exact d3', d4', d5', fun j hj => d6' j ?_⟩
    show j < X.k ∨ X.k + (holeT p).size ≤ j
    rw [c7, Nat.one_mul] at hj
    exact hj
  have hwin' : WinRd w' (Av (fun c => S c ∨ ∃ q ∈ rowsOf p z 0, (rv q.1).ownBlock = some c) B false) X ⟨o.eid, false, holeT p, [strip p z]⟩ := by
    obtain ⟨cy, d1, d2, d3⟩ := hwin
    rcases d3 with ⟨e, _⟩ | ⟨b2, cap2, cur', e1, _, e3, e4, e5, e6⟩
    · cases e
    · dsimp only [boxLnt] at e1 e3 e4 e5 e6
      injection e1 with e1
      injection e1 with e1
      injection e1 with e1
      subst e1
      refine ⟨cy, d1, d2.flat q2, .inr ⟨b, cap, cur', by rw [hv, c8]; rfl, c5, c7, e4, ?_, ?_⟩⟩
      · rw [c7, Nat.one_mul]; exact e5
      · rw [c7, Nat.one_mul]; exact e6
  have h3 := h2.turnL hbb g5 hk1 hwin'
  -- its rows are laid
  obtain ⟨ν4, h4⟩ := rows_lay (bo := none) (b := b) (k0 := X.k) (hs := hs) (rv := rv) (l := rowsOf p z 0) h3 ⟨⟨n, cap, hv⟩, rfl⟩ hrows.cell (fun q hq => ⟨hrows.obj q hq, hrows.flat q hq⟩) (fun q hq c hc => by
    refine ⟨.inr ⟨q, hq, hc⟩, ?_, fun g r hg hgc => ?_⟩
    · rcases hnew q hq c hc with ⟨q', hq', hc'⟩ | e
      · obtain ⟨g', r', m1, m2, m3⟩ := hmore c ⟨q', hq', hc'⟩
        exact (h.nw g' r' c m2 m3).imp id fun e => ⟨rfl, e.2⟩
      · exact .inl (by omega)
    · obtain ⟨hn1, hg1⟩ := (hobjs g r).1 hg
      rcases hnew q hq c hc with ⟨q', hq', hc'⟩ | e
      · obtain ⟨g', r2, m1, m2, m3⟩ := hmore c ⟨q', hq', hc'⟩
        have := h.sep g g' r r2 c hg1 m2 hgc m3
        subst this
        exact hn1 m1
      · have := h.lt c (h.own g r c hg1 hgc)
        omega) hrows.apart (rows_nodup p z 0)
  obtain ⟨hv1, hnd1, hlist⟩ := hret
  have hblk := flat_blocks (vs := vs) hfl
  have h5 := h4.widen (S' := fun c => (S c ∨ ∃ q ∈ rowsOf p z 0, (rv q.1).ownBlock = some c) ∨ c ∈ rowBlocks rs vs) (World.grownBy.refl w' none) (fun c hc => .inl hc) (fun c hc => by
    rcases hc with hc | hc
    · exact .inl hc
    · rw [hblk] at hc; cases hc) (fun c hc => by
    rcases hc with hc | hc
    · exact h4.lt c hc
    · rw [hblk] at hc; cases hc)
  obtain ⟨ν5, h6⟩ := evResult_ok (ds := ds) (B' := w'.heap.size) (Nat.le_trans hbase hK.size) h5 hv1 hnd1 (flat_list hfl hlist) (fun c hc => by
    rcases hc with hc | hc
    · exact .inr (h4.lt c hc)
    · exact .inl hc) (fun c hc => by rw [hblk] at hc; cases hc) hr
  exact ⟨_, ν5, h6⟩
theorem flat_args {S1 : Nat → Prop} : ∀ {ps : List Ty} {x : Tys.I ps} {vs : List Value}, flatPs ps = true → ArgsRd w ps x vs → ArgsRdS w S1 ps x vs
  | [], _, _, _, h => h
  | t :: r, x, vs, hf, h => by
    unfold flatPs at hf
    rw [Bool.and_eq_true] at hf
    obtain ⟨v, us, e, h1, h2⟩ := h
    exact ⟨v, us, e, h1.flat hf.1, flat_args hf.2 h2⟩
theorem own_win (h : Inv B X w0 S ν st tmps w) {tag : Nat} {o : Obj} {b n cap : Nat} (ho : olook tag st.objs = some o) (hv : ν tag = .slice (some ⟨b, 0, none⟩) n cap) {p : Ty} {x : (holeT p).I} (hx : Ty.cast (.sl o.e) (.sl (holeT p)) o.xs = some [x]) (hf : (holeT p).flat = true) (rv : Nat → Value) (rows : List (Nat × Row)) :
    WinRd w S (boxLnt b 0 (holeT p).size rv rows) ⟨o.eid, false, holeT p, [x]⟩ := by
  obtain ⟨cs, cur, c1, c2, c3, c4, c5, c6, c7, c8, c9⟩ := (h.obj tag o ho).box hv hx
  refine ⟨cs, ?_, c2.flat hf, .inr ⟨b, 1, cur, rfl, Nat.le_refl _, by show (holeT p).size = 1 * (holeT p).size; omega, c1, by show 0 + (holeT p).size ≤ _; omega, by show (cur.toList.drop 0).take (holeT p).size = cs; rw [← c3, Nat.one_mul]⟩⟩
  rw [← c3, List.length_take, List.length_drop, Array.length_toList]
  show min (1 * (holeT p).size) (cur.size - 0) = 1 * (holeT p).size
  omega
theorem lent_win (h : Inv B X w0 S ν st tmps w) {o : Obj} {b n cap : Nat} (ho : st.lent = some o) (hv : X.v = .slice (some ⟨b, X.k, none⟩) n cap) {p : Ty} {x : (holeT p).I} (hx : Ty.cast (.sl o.e) (.sl (holeT p)) o.xs = some [x]) (hf : (holeT p).flat = true) (rv : Nat → Value) (rows : List (Nat × Row)) :
    WinRd w S (boxLnt b X.k (holeT p).size rv rows) ⟨o.eid, false, holeT p, [x]⟩ := by
  obtain ⟨cs, cur, c1, c2, c3, c4, c5, c6, c7, c8, c9⟩ := (h.win o ho).box hv hx
  exact ⟨cs, c2, c3.flat hf, .inr ⟨b, 1, cur, rfl, Nat.le_refl _, by show (holeT p).size = 1 * (holeT p).size; omega, c1, by show X.k + (holeT p).size ≤ _; omega, by show (cur.toList.drop X.k).take (holeT p).size = cs; rw [← c4, Nat.one_mul]⟩⟩
end Go.Proofs.YtnldcpanpojeiaaGreatDoor
