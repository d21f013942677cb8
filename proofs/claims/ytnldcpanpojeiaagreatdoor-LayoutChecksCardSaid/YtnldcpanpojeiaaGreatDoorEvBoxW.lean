/-
  Boxes with rows of the call's own: laid by a store, read whole.
-/
import Derived.Test.YtnldcpanpojeiaaGreatDoorEvLay
namespace Go.Proofs.YtnldcpanpojeiaaGreatDoor
open Go.RowKit
variable {P : Program} {Λ : List Nat} {G : Ctx} {A : Ann} {B : Nat} {X : Lnt} {w0 w w' : World} {S S' : Nat → Prop} {ν : Nat → Value} {st st' : St} {tmps : Array Value} {ds : List Deferred}
theorem fill_rd {S1 : Nat → Prop} : ∀ {t : Ty} {y : t.I} {k : Nat} {cs : List Value}, (holeT t).flat = true → Rd w S (holeT t) (strip t y) cs → (∀ q ∈ rowsOf t y k, ∃ hv, cs[q.1 - k]? = some hv ∧ RdV w S1 (.sl q.2.e) q.2.xs hv) → Rd w S1 t y cs
  | .int _, _, _, _, hf, h, _ => Rd.flat (t := .int _) hf h
  | .bool, _, _, _, hf, h, _ => Rd.flat (t := .bool) hf h
  | .str, _, _, _, hf, h, _ => Rd.flat (t := .str) hf h
  | .err _ _, _, _, _, hf, _, _ => by cases hf
  | .eno _, _, _, _, hf, h, _ => Rd.flat (t := .eno _) hf h
  | .arr n e, _, _, _, hf, h, _ => Rd.flat (t := .arr n e) hf h
  | .ptr _, _, _, _, hf, _, _ => by cases hf
  | .fn _ _, _, _, _, hf, _, _ => by cases hf
  | .hole, _, _, _, hf, h, _ => Rd.flat (t := .hole) hf h
  | .sl e, y, k, cs, _, h, hr => by
    obtain ⟨u, rfl, _⟩ := (show ∃ u : Value, cs = [u] ∧ u.oneCell' = true from h)
    obtain ⟨hv, h1, h2⟩ := hr (k, ⟨e, y⟩) List.mem_cons_self
    dsimp only at h1 h2
    rw [Nat.sub_self] at h1
    cases h1
    obtain ⟨cs', h3, h4⟩ := h2
    have h3' := h3
    unfold Rd at h3'
    obtain ⟨A, cap, e1, _⟩ := h3'
    rw [e1] at h3 h4
    have h4 : u = .slice A y.length cap := h4
    rw [h4]
    exact h3
  | .st p, y, k, cs, hf, h, hr => by
    unfold Rd
    exact fill_rd (t := p) (k := k) hf (by have h : Rd w S (.st (holeT p)) (strip p y) cs := h; unfold Rd at h; exact h) hr
  | .pair a b, y, k, cs, hf, h, hr => by
    have hf : (holeT a).flat = true ∧ (holeT b).flat = true := by
      have : ((holeT a).flat && (holeT b).flat) = true := hf
      simpa using this
    have h : Rd w S (.pair (holeT a) (holeT b)) (strip a y.1, strip b y.2) cs := h
    unfold Rd at h ⊢
    obtain ⟨c1, c2, rfl, h1, h2⟩ := h
    have hl : c1.length = a.size := by rw [h1.len, holeT_size]
    refine ⟨c1, c2, rfl, fill_rd (k := k) hf.1 h1 fun q hq => ?_, fill_rd (k := k + a.size) hf.2 h2 fun q hq => ?_⟩
    · obtain ⟨hv, k1, k2⟩ := hr q (List.mem_append.2 (.inl hq))
      have := rows_key hq
      rw [List.getElem?_append_left (by omega)] at k1
      exact ⟨hv, k1, k2⟩
    · obtain ⟨hv, k1, k2⟩ := hr q (List.mem_append.2 (.inr hq))
      have := rows_key hq
      rw [List.getElem?_append_right (by omega), show q.1 - k - c1.length = q.1 - (k + a.size) by omega] at k1
      exact ⟨hv, k1, k2⟩
theorem row_val {o : Obj} {v : Value} (h : ObjRd B w S v o) (hf : o.e.flat = true) (hb : ∀ b, v.ownBlock = some b → B ≤ b) : RdV w (fun b => b < B) (.sl o.e) o.xs v := by
  have h2 : ObjRd B w S v ⟨o.eid, true, o.e, o.xs⟩ := obj_weak h (by simp [hf]) (by simp [Ty.cast])
  exact h2.val fun b _ hs => ⟨.inr ⟨rfl, hs⟩, fun e => by have := hb b e; omega⟩
theorem cell_newj {b k j : Nat} {cur : Array Value} {eid : TypeId} {vs : List Value} (hblk : w.heap[b]? = some (.cells cur eid (0, 0))) (hle : k + vs.length ≤ cur.size) (hj : j < vs.length) :
    (w.setRow b (splice cur.toList k vs).toArray).cell? ⟨b, k + j, none⟩ = vs[j]? := by
  have hnew := setRow_heap w b cur (splice cur.toList k vs).toArray eid (0, 0) hblk
  have : (splice cur.toList k vs).toArray[k + j]? = vs[j]? := by
    rw [List.getElem?_toArray]
    exact splice_in (by simpa using hle) hj
  simp [World.cell?, hnew, this]
theorem evStoreV_ok (hG : CtxOk P G) (h : Inv B X w0 S ν st tmps w) {o : Oper} {t : TypeId} {a v : Operand} (ho : o.op = .store t a v) (hr : (evStoreV G st o.dst t a v).run = some st') : MemOk P Λ B X w0 o tmps ds w st' := by
  unfold evStoreV at hr
  split at hr
  · rename_i p i tag u' sn u y rows hu hv ha
    obtain ⟨o0, b, n, cap, el, p1, p2, p3, p4, p5, p6, _⟩ := (show Slot1Rd B X w S ν st.objs (.eptr tag 0 [] u' sn) _ from opd_ok (ds := ds) h ha)
    obtain ⟨hfl, hvv, hrows⟩ := (show Slot1Rd B X w S ν st.objs (.hv u y rows) _ from opd_ok (ds := ds) h hv)
    split at hr
    · rename_i o1 ho1
      rw [p1] at ho1
      have e0 : o0 = o1 := Option.some.inj ho1
      subst e0
      split at hr
      · rename_i x hx
        split at hr
        · rename_i hc
          rw [Bool.and_eq_true, decide_eq_true_eq, Bool.not_eq_true'] at hc
          obtain ⟨hue, hnr⟩ := hc
          subst hue
          have hr := Option.some.inj hr
          subst hr
          have hsz : (Ty.st (holeT p)).size = (Ty.st p).size := holeT_size p
          have hobj1 : ObjRd B w S (ν tag) ⟨o0.eid, o0.fr, .st p, [x]⟩ := obj_weak (h.obj tag o0 p1) (by cases o0.fr <;> simp) hx
          have hobj2 : ObjRd B w S (ν tag) ⟨o0.eid, true, .st (holeT p), [strip p x]⟩ := by
            obtain ⟨cs, c1, c2⟩ := hobj1
            refine ⟨cs, ?_, fun j z hj => ?_⟩
            · show w.ownsRow 0 o0.eid (Ty.st (holeT p)).size (ν tag) 1 cs
              rw [hsz]; exact c1
            · match j, hj with
              | 0, hj =>
                cases hj
                obtain ⟨us, r1, r2⟩ := c2 0 x rfl
                exact ⟨us, strip_rd (t := .st p) hfl r1, fun i u hi => by simpa using r2 i u hi⟩
              | j + 1, hj => cases hj
          have h1 := h.adopt tag hobj2 (fun b hb => h.own tag o0 b p1 hb) (fun g q b hne hg hgb hb => hne (h.sep g tag q o0 b hg p1 hgb hb)) (fun b hb => h.nw tag o0 b p1 hb)
          have hupd : upd ν tag (ν tag) = ν := by
            funext g
            by_cases e : g = tag
            · subst e; exact upd_same
            · exact upd_ne e
          rw [hupd] at h1
          have hget : (⟨tmps, ds⟩ : Act).eval (.tmp i) = tmps.getD i undef := rfl
          have h2 := h1.set (s := .eptr tag 0 [] (.st (holeT p)) none) (v := tmps.getD i undef) ⟨_, b, n, cap, strip p x, look_new, p2, Int.le_refl _, by rw [← hget, p4, offAt_nil, offAt_nil]; simp, rfl, tyAt_nil _, fun z hz => by cases hz⟩ i
          rw [setIf_getD] at h2
          have hyv : RdV w (Av S B true) (.st (holeT p)) y ((⟨tmps, ds⟩ : Act).eval v) := hvv.flat hfl
          have hcs := hyv.cells
          obtain ⟨cur, c1, c2, c3⟩ := h2.store (tag := tag) (o := ⟨o0.eid, true, .st (holeT p), [strip p x]⟩) look_new p2 (i := 0) (el := strip p x) (el' := y) rfl (path := []) (u := .st (holeT p)) (y := y) (by simp [setAt, Ty.cast]) hyv
          dsimp only at c1 c2 c3
          rw [offAt_nil, Nat.zero_mul, Nat.zero_add] at c2 c3
          have hlen := hcs.len
          have hrun := run_storeVar (P := P) (hG.ty _ _ hu) (v := (⟨tmps, ds⟩ : Act).eval v) (g := b) (k := 0) (by rw [hlen]; exact hsz) hcs.one c1 (by rw [Nat.zero_add, ← hsz]; exact c2)
          refine memOk_skip (w' := w.setRow b (splice cur.toList 0 ((⟨tmps, ds⟩ : Act).eval v).cells.toList).toArray) (S := S) (ν := ν) ?_ ((c3.rehole (hs := holesIn tag rows ++ (((st.new tag ⟨o0.eid, true, .st (holeT p), [strip p x]⟩).set i (.eptr tag 0 [] (.st (holeT p)) none)).turn tag ⟨o0.eid, true, .st (holeT p), [y]⟩).holes) fun k hk => ?_).put (s := .undef) (v := undef) trivial o.dst ds) (fun hg => by simp [growOp, ho] at hg)
          · have e4 : (⟨tmps, ds⟩ : Act).eval (.tmp i) = .pointer (some ⟨b, 0, none⟩) := by rw [p4, offAt_nil]; simp
            simp only [execOp, ho, e4]
            simp [Instr.storeAt, Instr.sureAddr, hrun]
          · rcases List.mem_append.1 hk with hk | hk
            · obtain ⟨q, hq, rfl⟩ := holesIn_mem hk
              obtain ⟨g1, oq, g2⟩ := hrows q hq
              obtain ⟨p1', hp1'⟩ := hexs (o' := ⟨o0.eid, true, .st (holeT p), [strip p x]⟩) (tag := tag) q.2 oq g2
              refine ⟨b, 0, ⟨⟨_, look_new'⟩, ⟨n, cap, p2⟩, rfl⟩, ?_, hexs (st := (st.new tag ⟨o0.eid, true, .st (holeT p), [strip p x]⟩).set i (.eptr tag 0 [] (.st (holeT p)) none)) q.2 p1' hp1'⟩
              have hlt : q.1 < ((⟨tmps, ds⟩ : Act).eval v).cells.toList.length := by
                rw [Array.length_toList]
                exact (Array.getElem?_eq_some_iff.1 g1).1
              rw [cell_newj c1 (by rw [hlen]; omega) hlt, Array.getElem?_toList]
              exact g1
            · exact c3.hole k hk
        · cases hr
      · cases hr
    · cases hr
  · cases hr
theorem evStore_ok (hG : CtxOk P G) (h : Inv B X w0 S ν st tmps w) {o : Oper} {t : TypeId} {a v : Operand} (ho : o.op = .store t a v) (hr : (evStore G st o.dst t a v).run = some st') : MemOk P Λ B X w0 o tmps ds w st' := by
  unfold evStore at hr
  split at hr
  · exact evStoreH_ok hG h ho hr
  split at hr
  · exact evStoreV_ok hG h ho hr
  · exact evStore0_ok hG h ho hr
theorem freezeRows_ok : ∀ {l : List Nat} {S : Nat → Prop} {st : St}, Inv B X w0 S ν st tmps w → (∀ g ∈ l, isTk g = false) →
    ∃ S', Inv B X w0 S' ν (freezeRows l st) tmps w ∧ (∀ b, S' b → S b) ∧ ∀ g ∈ l, ∀ o b, olook g st.objs = some o → (ν g).ownBlock = some b → ¬ S' b
  | [], S, st, h, _ => ⟨S, h, fun _ h => h, fun g hg => by cases hg⟩
  | g :: r, S, st, h, ht => by
    unfold freezeRows
    cases ho : olook g st.objs with
    | none =>
      obtain ⟨S', k1, k2, k3⟩ := freezeRows_ok (l := r) h (fun q hq => ht q (List.mem_cons_of_mem _ hq))
      refine ⟨S', k1, k2, fun q hq o b hqo hqb => ?_⟩
      rcases List.mem_cons.1 hq with e | hq
      · subst e; rw [ho] at hqo; cases hqo
      · exact k3 q hq o b hqo hqb
    | some og =>
      have h1 := h.freeze ho (ht g List.mem_cons_self)
      obtain ⟨S', k1, k2, k3⟩ := freezeRows_ok (l := r) h1 (fun q hq => ht q (List.mem_cons_of_mem _ hq))
      refine ⟨S', k1, fun b hb => (k2 b hb).1, fun q hq o b hqo hqb hb => ?_⟩
      by_cases e : q = g
      · subst e; exact (k2 b hb).2 hqb
      · rcases List.mem_cons.1 hq with e' | hq
        · exact e e'
        · exact k3 q hq o b (by show olook q (odrop g st.objs) = some o; rw [olook_drop_ne e]; exact hqo) hqb hb
theorem rowTags_in {bo : Option Nat} {g : Nat} : ∀ {l : List (Nat × Ty)}, g ∈ rowTagsOf st bo l → ∃ q ∈ l, ∃ ro, rowObj st bo q.1 = some ro ∧ g = ro.1
  | [], h => by cases h
  | (k, e) :: r, h => by
    unfold rowTagsOf at h
    rcases List.mem_append.1 h with h | h
    · split at h
      · rename_i ro hro
        rw [List.mem_singleton] at h
        exact ⟨(k, e), List.mem_cons_self, ro, hro, h⟩
      · cases h
    · obtain ⟨q, h1, h2⟩ := rowTags_in h
      exact ⟨q, List.mem_cons_of_mem _ h1, h2⟩
theorem rowTags_of {bo : Option Nat} {q : Nat × Ty} {ro : Nat × Obj} : ∀ {l : List (Nat × Ty)}, q ∈ l → rowObj st bo q.1 = some ro → ro.1 ∈ rowTagsOf st bo l
  | [], h, _ => by cases h
  | (k, e) :: r, h, hro => by
    unfold rowTagsOf
    rcases List.mem_cons.1 h with h | h
    · subst h
      rw [hro]
      exact List.mem_append.2 (.inl (List.mem_singleton.2 rfl))
    · exact List.mem_append.2 (.inr (rowTags_of h hro))
theorem evLoadW_ok (hG : CtxOk P G) (h : Inv B X w0 S ν st tmps w) {o : Oper} {t : TypeId} {a : Operand} {hs : List (Nat × TypeId)} (ho : o.op = .load t a) (hr : (evLoadW G hs st o.dst t a).run = some st') : PureOk P B X w0 S ν o tmps ds w st' := by
  unfold evLoadW at hr
  split at hr
  · rename_i p d tag u' sn hu hd ha
    obtain ⟨o0, b, n, cap, el, p1, p2, p3, p4, p5, p6, _⟩ := (show Slot1Rd B X w S ν st.objs (.eptr tag 0 [] u' sn) _ from opd_ok (ds := ds) h ha)
    split at hr
    · rename_i o1 ho1
      rw [p1] at ho1
      have e0 : o0 = o1 := Option.some.inj ho1
      subst e0
      split at hr
      · rename_i y hy
        cases hr
        obtain ⟨q1, q2, q3, q4⟩ := boxFull_spec hy
        have hobj : ObjRd B w S (ν tag) ⟨o0.eid, true, holeT (.st p), [strip (.st p) y]⟩ := obj_weak (h.obj tag o0 p1) (by rw [q2]; simp) q3
        obtain ⟨us, k1, k2⟩ := obj_at hobj p2 (i := 0) rfl (path := []) (getAt_nil _ _)
        have hkeys : (rowsOf (.st p) y 0).map (fun q => (q.1, q.2.e)) = holesOf p 0 := rowsOf_holes (.st p) y 0
        obtain ⟨S1, f1, f2, f3⟩ := freezeRows_ok (l := rowTagsOf st (some tag) (holesOf p 0)) h (fun g hg => by
          obtain ⟨q, hq, ro, hro, e⟩ := rowTags_in hg
          rw [← hkeys] at hq
          obtain ⟨q', hq', e'⟩ := List.mem_map.1 hq
          obtain ⟨ro', r1, _, _, _, r5⟩ := q4 q' hq'
          rw [← e'] at hro
          rw [r1] at hro
          cases hro
          rw [e]
          exact r5.resolve_left (by simp))
        have hus : us.length = (Ty.st p).size := by rw [k1.len]; exact holeT_size p
        have hrd : Rd w (Av S1 B true) (.st p) y us := by
          refine fill_rd (S := Av S B true) (k := 0) q2 k1 fun q hq => ?_
          obtain ⟨ro, r1, r2, r3, r4, r5⟩ := q4 q hq
          obtain ⟨hcell, hlook⟩ := h.rowAt r1 (bo := some tag) (b := b) (k0 := 0) ⟨⟨_, p1⟩, ⟨n, cap, p2⟩, rfl⟩
          have hkey := rows_key hq
          have hlt : q.1 < us.length := by omega
          have hc := k2 q.1 us[q.1] (List.getElem?_eq_getElem hlt)
          rw [Nat.zero_add] at hcell
          rw [offAt_nil, Nat.zero_mul, Nat.zero_add, hcell] at hc
          refine ⟨ν ro.1, ?_, ?_⟩
          · rw [Nat.sub_zero, List.getElem?_eq_getElem hlt]
            exact hc.symm
          · rw [r2]
            have hm : (q.1, q.2.e) ∈ holesOf p 0 := by
              rw [← hkeys]
              exact List.mem_map.2 ⟨q, hq, rfl⟩
            have ho2 : ObjRd B w S (ν ro.1) ⟨ro.2.eid, true, ro.2.e, ro.2.xs⟩ := obj_weak (h.obj _ _ hlook) (by simp [r4]) (by simp [Ty.cast])
            refine ho2.val fun c _ hc => ?_
            refine ⟨hc.imp (f2 c) id, fun e => ?_⟩
            rcases hc with hc | ⟨_, hc⟩
            · exact f3 ro.1 (rowTags_of (q := (q.1, q.2.e)) hm r1) ro.2 c hlook e hc
            · rcases h.nw ro.1 ro.2 c hlook e with hB | ⟨hB, _⟩
              · omega
              · rcases r5 with r5 | r5
                · cases r5
                · rw [r5] at hB; cases hB
        have he : (⟨tmps, ds⟩ : Act).eval a = .pointer (some ⟨b, 0, none⟩) := by rw [p4, offAt_nil]; simp
        have hcell : ∀ j u, us[j]? = some u → w.cell? ((⟨b, 0, none⟩ : Addr).add j) = some u := fun j u hj => by
          have := k2 j u hj
          rw [offAt_nil, Nat.zero_mul, Nat.zero_add] at this
          rw [addr_add, Nat.zero_add]
          exact this
        have hy2 : Yields P o ⟨tmps, ds⟩ w (mkV (.st p) us) := by
          intro w' hw'
          have hrun := run_loadVar (hG.ty _ _ hu) (ad := ⟨b, 0, none⟩) hus (w' := w') (fun j v hj => by
            have := hcell j v hj
            exact (World.cell?_of_block (hw'.2 _ (World.block_lt_of_cell? w _ this))).trans this) (no_pair (hG.ty _ _ hu))
          simp only [execOp, ho, he]
          simp [Instr.loadAt, Instr.sureAddr, hrun]
        have hput : (Act.put ⟨tmps, ds⟩ o.dst (mkV (.st p) us)).tmps = tmps.setIfInBounds d (mkV (.st p) us) := by rw [hd]; rfl
        refine ⟨mkV (.st p) us, hy2, S1, f2, ?_⟩
        rw [hput]
        exact f1.set (s := .val true (.st p) y) ⟨us, hrd, rfl⟩ d
      · cases hr
    · cases hr
  · cases hr
end Go.Proofs.YtnldcpanpojeiaaGreatDoor
