/-
  Boxes that lead to rows of the call's own: how they are written out, and laid.
-/
import Derived.Test.YtnldcpanpojeiaaGreatDoorEvMem4
namespace Go.Proofs.YtnldcpanpojeiaaGreatDoor
open Go.RowKit
variable {P : Program} {Λ : List Nat} {G : Ctx} {A : Ann} {B : Nat} {X : Lnt} {w0 w w' : World} {S S' : Nat → Prop} {ν : Nat → Value} {st st' : St} {tmps : Array Value} {ds : List Deferred}
theorem strip_rd : ∀ {t : Ty} {x : t.I} {cs : List Value}, (holeT t).flat = true → Rd w S t x cs → Rd w' S' (holeT t) (strip t x) cs
  | .int _, _, _, _, h => by unfold Rd at h; exact h
  | .bool, _, _, _, h => by unfold Rd at h; exact h
  | .str, _, _, _, h => by unfold Rd at h; exact h
  | .err _ _, _, _, hf, _ => by cases hf
  | .eno _, _, _, _, h => by unfold Rd at h; exact h
  | .arr n e, _, _, hf, h => Rd.flat (t := .arr n e) hf h
  | .sl _, _, _, _, h => by
    unfold Rd at h
    obtain ⟨A, cap, rfl, _⟩ := h
    exact ⟨_, rfl, rfl⟩
  | .st p, x, _, hf, h => strip_rd (t := p) hf (by unfold Rd at h; exact h)
  | .ptr _, _, _, hf, _ => by cases hf
  | .fn _ _, _, _, hf, _ => by cases hf
  | .pair a b, x, _, hf, h => by
    have hf : (holeT a).flat = true ∧ (holeT b).flat = true := by
      have : ((holeT a).flat && (holeT b).flat) = true := hf
      simpa using this
    unfold Rd at h
    obtain ⟨c1, c2, rfl, h1, h2⟩ := h
    exact ⟨c1, c2, rfl, strip_rd hf.1 h1, strip_rd hf.2 h2⟩
  | .hole, _, _, _, h => by unfold Rd at h; exact h
theorem zchk_len {τ : Ty} {cs : List Value} (h : zchk τ cs = true) : cs.length = τ.size := (zchk_rd (w := default) (S := fun _ => False) h).len
theorem zchk_holes : ∀ {τ : Ty} {cs : List Value} {k : Nat}, zchk τ cs = true → ∀ q ∈ holesOf τ k, ∃ j, q.1 = k + j ∧ cs[j]? = some (.slice none 0 0)
  | .int _, _, _, _, _, hq => by cases hq
  | .bool, _, _, _, _, hq => by cases hq
  | .str, _, _, _, _, hq => by cases hq
  | .err _ _, _, _, _, _, hq => by cases hq
  | .eno _, _, _, _, _, hq => by cases hq
  | .arr _ _, _, _, _, _, hq => by cases hq
  | .ptr _, _, _, _, _, hq => by cases hq
  | .fn _ _, _, _, _, _, hq => by cases hq
  | .hole, _, _, _, _, hq => by cases hq
  | .sl e, cs, k, h, q, hq => by
    have hq : q ∈ [(k, e)] := hq
    rw [List.mem_singleton] at hq
    subst hq
    refine ⟨0, rfl, ?_⟩
    unfold zchk at h
    split at h <;> simp_all
  | .st p, cs, k, h, q, hq => by
    have h' : zchk p cs = true := by unfold zchk at h; exact h
    exact zchk_holes (τ := p) h' q hq
  | .pair a b, cs, k, h, q, hq => by
    have h' : (zchk a (cs.take a.size) && zchk b (cs.drop a.size)) = true := by unfold zchk at h; exact h
    rw [Bool.and_eq_true] at h'
    have hq : q ∈ holesOf a k ++ holesOf b (k + a.size) := hq
    rcases List.mem_append.1 hq with hq | hq
    · obtain ⟨j, e1, e2⟩ := zchk_holes h'.1 q hq
      rw [List.getElem?_take] at e2
      split at e2
      · exact ⟨j, e1, e2⟩
      · cases e2
    · obtain ⟨j, e1, e2⟩ := zchk_holes h'.2 q hq
      rw [List.getElem?_drop] at e2
      exact ⟨a.size + j, by omega, e2⟩
theorem nil_obj (eid : TypeId) (e : Ty) : ObjRd B w S (.slice none 0 0) ⟨eid, true, e, []⟩ := ⟨[], World.ownsRow_nil w 0 eid e.size, fun j x hj => by simp at hj⟩
theorem nilRows_ok {d : Nat} {hs : List (Nat × TypeId)} : ∀ {l : List (Nat × Ty)} {ν : Nat → Value} {st : St}, Inv B X w0 S ν st tmps w →
    ∃ ν', Inv B X w0 S ν' (nilRows d hs l st) tmps w ∧ (∀ q ∈ l, ν' (rowTag (some d) q.1) = .slice none 0 0 ∧ ∃ o, olook (rowTag (some d) q.1) (nilRows d hs l st).objs = some o) ∧
      (∀ g, ν g = .slice none 0 0 → ν' g = .slice none 0 0) ∧ (∀ g, (∃ o, olook g st.objs = some o) → ∃ o, olook g (nilRows d hs l st).objs = some o)
  | [], ν, st, h => ⟨ν, h, (fun q hq => by cases hq), fun _ h => h, fun _ h => h⟩
  | (k, e) :: r, ν, st, h => by
    have h1 := h.adopt (rowTag (some d) k) (nil_obj (w := w) (B := B) (S := S) (eidAt hs k) e) (fun b hb => by cases hb) (fun _ _ _ _ _ _ hb => by cases hb) (fun b hb => by cases hb)
    obtain ⟨ν', k1, k2, k3, k4⟩ := nilRows_ok (l := r) h1
    refine ⟨ν', k1, fun q hq => ?_, fun g hg => k3 g ?_, fun g hg => k4 g ?_⟩
    · rcases List.mem_cons.1 hq with hq | hq
      · subst hq
        exact ⟨k3 _ upd_same, k4 _ ⟨_, look_new⟩⟩
      · exact k2 q hq
    · by_cases e : g = rowTag (some d) k
      · rw [e, upd_same]
      · rw [upd_ne e]; exact hg
    · obtain ⟨o, ho⟩ := hg
      by_cases e : g = rowTag (some d) k
      · rw [e]; exact ⟨_, look_new⟩
      · exact hexs g o ho
theorem rows0_mem {d : Nat} {q : Nat × Nat} : ∀ {l : List (Nat × Ty)}, q ∈ rows0 d l → ∃ p ∈ l, q = (p.1, rowTag (some d) p.1)
  | [], h => by cases h
  | (k, e) :: r, h => by
    rcases List.mem_cons.1 h with h | h
    · exact ⟨(k, e), List.mem_cons_self, h⟩
    · obtain ⟨p, h1, h2⟩ := rows0_mem h
      exact ⟨p, List.mem_cons_of_mem _ h1, h2⟩
theorem rset_mem {k r : Nat} {q : Nat × Nat} : ∀ {l : List (Nat × Nat)}, q ∈ rset k r l → q = (k, r) ∨ (q ∈ l ∧ q.1 ≠ k)
  | [], h => by cases h
  | (j, p) :: l, h => by
    unfold rset at h
    split at h
    · rename_i e
      have e := nbeq.1 e
      rcases List.mem_cons.1 h with h | h
      · exact .inl (by rw [h, e])
      · rcases rset_mem h with h | h
        · exact .inl h
        · exact .inr ⟨List.mem_cons_of_mem _ h.1, h.2⟩
    · rename_i e
      rcases List.mem_cons.1 h with h | h
      · subst h
        exact .inr ⟨List.mem_cons_self, fun e' => e (nbeq.2 e')⟩
      · rcases rset_mem h with h | h
        · exact .inl h
        · exact .inr ⟨List.mem_cons_of_mem _ h.1, h.2⟩
theorem apartR_mem {lo n : Nat} {q : Nat × Nat} : ∀ {l : List (Nat × Nat)}, apartR lo n l = true → q ∈ l → q.1 < lo ∨ lo + n ≤ q.1
  | [], _, h => by cases h
  | p :: l, hc, h => by
    unfold apartR at hc
    rw [Bool.and_eq_true, Bool.or_eq_true] at hc
    rcases List.mem_cons.1 h with h | h
    · subst h
      exact hc.1.imp (fun h => by simpa using h) Nat.le_of_ble_eq_true
    · exact apartR_mem hc.2 h
theorem isHole_eq {u : Ty} (h : isHole u = true) : u = .hole := by cases u <;> first | rfl | cases h
theorem flatVal_ok (h : Inv B X w0 S ν st tmps w) {x : Operand} {s : Slot} (hs : st.opd x = some s) {u : Ty} {y : u.I} (hy : flatVal s u = some y) (hf : u.flat = true) {S1 : Nat → Prop} : RdV w S1 u y ((⟨tmps, ds⟩ : Act).eval x) := by
  have hsv := opd_ok (ds := ds) h hs
  unfold flatVal at hy
  split at hy
  · exact (RdV.cast hy (show RdV w _ _ _ _ from hsv)).flat hf
  · rename_i b
    have hv : (⟨tmps, ds⟩ : Act).eval x = .bool b := hsv
    rw [hv]
    exact RdV.cast hy (bool_val (w := w) (S := S1) b)
  · cases hy
theorem evFieldsH_ok (h : Inv B X w0 S ν st tmps w) {p : Ty} {place : Nat → Option (Nat × Nat)} (hpl : ∀ k u, tyAt p (fieldPath p k) = some u → place k = some (offAt p (fieldPath p k), u.size)) {S1 : Nat → Prop} :
    ∀ {parts : List (Nat × Operand)} {x z : p.I} {rows rows' : List (Nat × Nat)} {cells : Array Value}, Rd w S1 p x cells.toList → (∀ q ∈ rows, cells[q.1]? = some (ν q.2) ∧ ∃ o, olook q.2 st.objs = some o) → evFieldsH p st parts x rows = some (z, rows') →
      ∃ cs, Instr.fill place cells (parts.map fun q => (q.1, (⟨tmps, ds⟩ : Act).eval q.2)) = some cs ∧ Rd w S1 p z cs.toList ∧ ∀ q ∈ rows', cs[q.1]? = some (ν q.2) ∧ ∃ o, olook q.2 st.objs = some o
  | [], x, z, rows, rows', cells, hx, hrows, hr => by
    cases hr
    exact ⟨cells, rfl, hx, hrows⟩
  | (k, o) :: r, x, z, rows, rows', cells, hx, hrows, hr => by
    unfold evFieldsH at hr
    split at hr
    · rename_i s u hs hu
      have step : ∀ {y : u.I} {x1 : p.I} {rows1 : List (Nat × Nat)}, RdV w S1 u y ((⟨tmps, ds⟩ : Act).eval o) → setAt p (fieldPath p k) x u y = some x1 →
          (∀ c1 : Array Value, c1.toList = splice cells.toList (offAt p (fieldPath p k)) ((⟨tmps, ds⟩ : Act).eval o).cells.toList → offAt p (fieldPath p k) + u.size ≤ cells.size → ((⟨tmps, ds⟩ : Act).eval o).cells.toList.length = u.size → ∀ q ∈ rows1, c1[q.1]? = some (ν q.2) ∧ ∃ o, olook q.2 st.objs = some o) →
          evFieldsH p st r x1 rows1 = some (z, rows') → ∃ cs, Instr.fill place cells (((k, o) :: r).map fun q => (q.1, (⟨tmps, ds⟩ : Act).eval q.2)) = some cs ∧ Rd w S1 p z cs.toList ∧ ∀ q ∈ rows', cs[q.1]? = some (ν q.2) ∧ ∃ o, olook q.2 st.objs = some o := by
        intro y x1 rows1 hy hx1 hrow1 hr
        have hyc := hy.cells
        obtain ⟨_, k2⟩ := setAt_rd hx hx1 hyc
        have hyl := hyc.len
        have hxl := hx.len
        have hle := off_le hu
        have hyl' := hyl
        simp only [Array.length_toList] at hyl hxl
        have hz := zip_splice (offAt p (fieldPath p k)) ((⟨tmps, ds⟩ : Act).eval o) cells (by omega)
        rw [← hz] at k2
        obtain ⟨cs, b3, b4, b5⟩ := evFieldsH_ok h hpl k2 (hrow1 _ hz (by omega) hyl') hr
        refine ⟨cs, ?_, b4, b5⟩
        rw [List.map_cons]
        unfold Instr.fill
        have hn : ¬ (((⟨tmps, ds⟩ : Act).eval o).cells.size ≠ u.size || offAt p (fieldPath p k) + ((⟨tmps, ds⟩ : Act).eval o).cells.size > cells.size) = true := by
          simp [hyl]; omega
        simp only [hpl k u hu]
        rw [if_neg hn]
        exact b3
      have keep : ∀ {q : Nat × Nat} {c1 : Array Value} {vs : List Value}, c1.toList = splice cells.toList (offAt p (fieldPath p k)) vs → offAt p (fieldPath p k) + vs.length ≤ cells.size → (q.1 < offAt p (fieldPath p k) ∨ offAt p (fieldPath p k) + vs.length ≤ q.1) → c1[q.1]? = cells[q.1]? := by
        intro q c1 vs e hle hd
        rw [← Array.getElem?_toList, e, splice_out (by simpa using hle) hd, Array.getElem?_toList]
      split at hr
      · rename_i hh
        have hh := isHole_eq hh
        subst hh
        split at hr
        · rename_i q
          split at hr
          · rename_i oq x1 hoq hx1
            have hv : (⟨tmps, ds⟩ : Act).eval o = ν q := (show Slot1Rd B X w S ν st.objs (.ref q) _ from opd_ok (ds := ds) h hs).1
            have hcl : (ν q).cells.toList = [ν q] := by
              obtain ⟨A, cap, e, _⟩ := obj_slice (h.obj q oq hoq)
              rw [e]; rfl
            refine step (y := ()) (by rw [hv]; exact ref_hole h hoq) hx1 (fun c1 e1 hle hl q' hq' => ?_) hr
            rw [hv, hcl] at e1
            have hle' : offAt p (fieldPath p k) + 1 ≤ cells.size := hle
            rcases rset_mem hq' with e | ⟨hq', hne⟩
            · subst e
              refine ⟨?_, oq, hoq⟩
              rw [← Array.getElem?_toList, e1]
              exact splice_in (vs := [ν q]) (j := 0) (by simpa using hle') (by simp)
            · exact ⟨by rw [keep e1 hle' (by simp only [List.length_singleton]; omega)]; exact (hrows q' hq').1, (hrows q' hq').2⟩
          · cases hr
        · cases hr
      · split at hr
        · rename_i hc
          rw [Bool.and_eq_true] at hc
          split at hr
          · rename_i y hy
            split at hr
            · rename_i x1 hx1
              refine step (flatVal_ok h hs hy hc.1) hx1 (fun c1 e1 hle hl q' hq' => ?_) hr
              have hd := apartR_mem hc.2 hq'
              exact ⟨by rw [keep e1 (by omega) (by omega)]; exact (hrows q' hq').1, (hrows q' hq').2⟩
            · cases hr
          · cases hr
        · cases hr
    · cases hr
theorem evBuildH_ok' (hG : CtxOk P G) (h : Inv B X w0 S ν st tmps w) {o : Oper} {t : TypeId} {parts : Array (Nat × Operand)} {hs : List (Nat × TypeId)} (ho : o.op = .build t parts) (hr : (evBuildH G hs st o.dst t parts).run = some st') : SliceOk P B X w0 o tmps ds w st' := by
  unfold evBuildH at hr
  split at hr
  · rename_i p d ht hd
    split at hr
    · cases hr
    · rename_i hc
      simp only [Bool.or_eq_true, Bool.not_eq_true', not_or, Bool.not_eq_false] at hc
      obtain ⟨hpn, hfl⟩ := hc
      split at hr
      · rename_i x rows hf
        cases hr
        have hT := hG.ty _ _ ht
        obtain ⟨i, z, k1, k2, k3, k4, k5⟩ := ty_zero hT hpn
        obtain ⟨cs0, rfl⟩ := k5.1 rfl
        obtain ⟨dd, e1, c1⟩ := hT.desc
        cases dd <;> simp only [dchk] at c1 <;> try contradiction
        rename_i fs
        obtain ⟨places, q1, q2⟩ := fchk_places c1
        have k4' : zchk p cs0.toList = true := by
          have h2 : zchk (.st p) cs0.toList = true := k4
          unfold zchk at h2
          exact h2
        obtain ⟨ν1, h1, hn1, hn2, hn3⟩ := nilRows_ok (d := d) (hs := hs) (l := holesOf p 0) h
        have hz : Rd w (fun _ => True) (holeT p) (strip p p.zero) cs0.toList := strip_rd (S := fun _ => True) (w := w) hfl (zchk_rd k4')
        obtain ⟨cs, a3, a4, a5⟩ := evFieldsH_ok (ds := ds) h1 (p := holeT p) (place := (places.toArray[·]?)) (fun k u hu => by
          rw [fieldPath_hole] at hu ⊢
          obtain ⟨u', m1, m2, m3⟩ := tyAt_field p k u hu
          have := q2 k u' m1
          rw [Nat.zero_add] at this
          rw [m3, ← m2]
          simpa using this) hz (fun q hq => by
          obtain ⟨q', hq', rfl⟩ := rows0_mem hq
          obtain ⟨j, j1, j2⟩ := zchk_holes k4' q' hq'
          obtain ⟨n1, n2⟩ := hn1 q' hq'
          refine ⟨?_, n2⟩
          dsimp only
          rw [n1, j1, Nat.zero_add, ← Array.getElem?_toList]
          exact j2) hf
        have hb : P.built t (parts.map fun q => (q.1, (⟨tmps, ds⟩ : Act).eval q.2)).toList = some cs := by
          unfold Program.built
          simp only [k1, e1, k3, q1, Array.toList_map]
          exact a3
        have hrun := run_build w t _ cs hb
        have hv : RdV w (fun _ => True) (.st (holeT p)) x (.agg cs) := ⟨cs.toList, by unfold Rd; exact a4, by simp [mkV]⟩
        have hput : ∀ v, (Act.put ⟨tmps, ds⟩ o.dst v).tmps = tmps.setIfInBounds d v := fun v => by rw [hd]; rfl
        have h2 := h1.set (s := .hv (.st (holeT p)) x rows) (v := .agg cs) ⟨hfl, hv, fun q hq => by
          have := a5 q hq
          exact ⟨by simpa [Value.cells] using this.1, this.2⟩⟩ d
        rw [← hput] at h2
        exact ⟨.agg cs, _, _, fun w' => by simp only [execOp, ho]; simp [run_build w' t _ cs hb], h2⟩
      · cases hr
  · cases hr
theorem evBuildH_ok (hG : CtxOk P G) (h : Inv B X w0 S ν st tmps w) {o : Oper} {t : TypeId} {parts : Array (Nat × Operand)} {hs : List (Nat × TypeId)} (ho : o.op = .build t parts) (hr : (evBuildH G hs st o.dst t parts).run = some st') : MemOk P Λ B X w0 o tmps ds w st' :=
  let ⟨_, _, _, h1, h2⟩ := evBuildH_ok' (ds := ds) hG h ho hr
  memOk_val (h1 w) h2 (fun _ => Ext.refl w)
theorem holesIn_mem {d : Nat} {q : Hole} : ∀ {l : List (Nat × Nat)}, q ∈ holesIn d l → ∃ p ∈ l, q = ⟨some d, p.1, p.2⟩
  | [], h => by cases h
  | p :: r, h => by
    rcases List.mem_cons.1 h with h | h
    · exact ⟨p, List.mem_cons_self, h⟩
    · obtain ⟨p', h1, h2⟩ := holesIn_mem h
      exact ⟨p', List.mem_cons_of_mem _ h1, h2⟩
theorem evBoxH_ok (hG : CtxOk P G) (h : Inv B X w0 S ν st tmps w) {o : Oper} {t : TypeId} {x : Operand} (ho : o.op = .box t x) (hr : (evBoxH G st o.dst t x).run = some st') : MemOk P Λ B X w0 o tmps ds w st' := by
  unfold evBoxH at hr
  split at hr
  · rename_i p d u y rows ht hd hx
    split at hr
    · rename_i hc
      rw [Bool.and_eq_true, decide_eq_true_eq, Bool.not_eq_true'] at hc
      obtain ⟨hu, hnr⟩ := hc
      cases hr
      obtain ⟨hfl, hv, hrows⟩ := (show Slot1Rd B X w S ν st.objs (.hv u y rows) _ from opd_ok (ds := ds) h hx)
      generalize hve : (⟨tmps, ds⟩ : Act).eval x = v at hv hrows
      have hcs := (hv.flat (w' := w) (S' := Av S B true) hfl).cells
      have hrow : RowRd w (Av S B true) u [y] v.cells.toList := by
        intro j y' hj
        match j, hj with
        | 0, hj => cases hj; exact ⟨_, hcs, fun i u hu => by simpa using hu⟩
        | j + 1, hj => cases hj
      have h1 := h.row d (eid := t) (cap := 1) hrow (by have := hcs.len; simpa using this) (Nat.le_refl _) (by simp [maxLen])
      have h2 := h1.rehole (hs := holesIn d rows ++ (st.new d ⟨t, true, u, [y]⟩).holes) (fun q hq => by
        rcases List.mem_append.1 hq with hq | hq
        · obtain ⟨p', hp', rfl⟩ := holesIn_mem hq
          have hne : p'.2 ≠ d := fun e => by rw [hasRow_mem hp' e] at hnr; cases hnr
          obtain ⟨k1, o', k2⟩ := hrows p' hp'
          refine ⟨w.heap.size, 0, ⟨⟨_, look_new⟩, ⟨1, 1, upd_same⟩, rfl⟩, ?_, hexs p'.2 o' k2⟩
          rw [Nat.zero_add]
          show (w.alloc (.cells v.cells t)).cell? ⟨w.heap.size, p'.1, none⟩ = some (upd ν d _ p'.2)
          rw [upd_ne hne, ← k1]
          simp only [World.cell?, heap_alloc_new]
          simp
        · exact h1.hole q hq)
      have h3 := h2.set (s := .eptr d 0 [] u none) (v := .pointer (some ⟨w.heap.size, 0, none⟩))
        (by refine ⟨_, w.heap.size, _, 1, y, look_new, upd_same, Int.le_refl _, by rw [offAt_nil]; simp, rfl, tyAt_nil _, fun y hy => by cases hy⟩) d
      have e : ∀ v, (Act.put ⟨tmps, ds⟩ o.dst v).tmps = tmps.setIfInBounds d v := fun v => by rw [hd]; rfl
      rw [← e] at h3
      refine memOk_val (v := .pointer (some ⟨w.heap.size, 0, none⟩)) (w' := w.alloc (.cells v.cells t)) ?_ h3 (fun _ => Ext.alloc _ _)
      simp only [execOp, ho, hve]
      simp [Instr.box, newVar, newRow]
    · cases hr
  · cases hr
end Go.Proofs.YtnldcpanpojeiaaGreatDoor
