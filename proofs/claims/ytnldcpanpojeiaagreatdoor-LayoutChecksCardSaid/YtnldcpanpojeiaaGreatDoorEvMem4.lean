/-
  Structs that are written out; boxes; make; cuts of a row; append.
-/
import Derived.Test.YtnldcpanpojeiaaGreatDoorEvMem3
import Derived.Laws.Tables
namespace Go.Proofs.YtnldcpanpojeiaaGreatDoor
open Go.RowKit
variable {P : Program} {Λ : List Nat} {G : Ctx} {A : Ann} {B : Nat} {X : Lnt} {w0 w w' : World} {S S' : Nat → Prop} {ν : Nat → Value} {st st' : St} {tmps : Array Value} {ds : List Deferred}
theorem zchk_rd {S : Nat → Prop} : ∀ {τ : Ty} {cs : List Value}, zchk τ cs = true → Rd w S τ τ.zero cs
  | .int k, cs, h => by
    unfold zchk at h
    split at h <;> simp_all [Rd, Ty.zero]
  | .bool, cs, h => by
    unfold zchk at h
    split at h <;> simp_all [Rd, Ty.zero]
  | .str, cs, h => by
    unfold zchk at h
    split at h <;> simp_all [Rd, Ty.zero]
  | .err _ _, cs, h => by
    unfold zchk at h
    split at h <;> simp_all [Rd, Ty.zero]
  | .eno _, cs, h => by
    unfold zchk at h
    cases h
  | .arr n e, cs, h => by
    unfold zchk at h
    rw [Bool.and_eq_true, beq_iff_eq, List.all_eq_true] at h
    unfold Rd
    refine ⟨by simp [Ty.zero], h.1, fun j x hj => ?_⟩
    have hj' : (List.replicate n e.zero)[j]? = some x := hj
    rw [List.getElem?_replicate] at hj'
    split at hj'
    · rename_i hjn
      cases hj'
      refine ⟨_, zchk_rd (h.2 j (List.mem_range.2 hjn)), fun i u hi => ?_⟩
      rw [List.getElem?_take] at hi
      split at hi
      · rwa [List.getElem?_drop] at hi
      · cases hi
    · cases hj'
  | .sl e, cs, h => by
    unfold zchk at h
    split at h <;> first | (simp_all [Rd, Ty.zero]; done) | (simp_all [Rd, Ty.zero]; exact ⟨none, 0, ⟨rfl, rfl⟩, fun _ => rfl⟩)
  | .st p, cs, h => by
    have h' : zchk p cs = true := by
      unfold zchk at h
      exact h
    show Rd w S (.st p) p.zero cs
    unfold Rd
    exact zchk_rd h'
  | .ptr p, cs, h => by
    unfold zchk at h
    cases h
  | .fn f p, cs, h => by
    unfold zchk at h
    cases h
  | .pair a b, cs, h => by
    have h' : (zchk a (cs.take a.size) && zchk b (cs.drop a.size)) = true := by
      unfold zchk at h
      exact h
    rw [Bool.and_eq_true] at h'
    show Rd w S (.pair a b) (a.zero, b.zero) cs
    unfold Rd
    exact ⟨cs.take a.size, cs.drop a.size, (List.take_append_drop _ _).symm, zchk_rd h'.1, zchk_rd h'.2⟩
theorem zip_splice (off : Nat) (v : Value) (acc : Array Value) (h : off + v.cells.size ≤ acc.size) : (v.cells.zipIdx.foldl (fun cs (p : Value × Nat) => cs.setIfInBounds (off + p.2) p.1) acc).toList = splice acc.toList off v.cells.toList := by
  obtain ⟨z1, z2, z3⟩ := zip_fold off v.cells.toList 0 acc (by simpa using h)
  simp only [Nat.add_zero, Array.length_toList] at z1 z2 z3
  have e : v.cells.zipIdx.foldl (fun cs (p : Value × Nat) => cs.setIfInBounds (off + p.2) p.1) acc = (v.cells.toList.zipIdx 0).foldl (fun a (p : Value × Nat) => a.setIfInBounds (off + p.2) p.1) acc := by
    rw [← Array.foldl_toList, Array.toList_zipIdx]
  rw [e]
  have hl : off + v.cells.toList.length ≤ acc.toList.length := by simpa using h
  apply List.ext_getElem?
  intro i
  rw [Array.getElem?_toList]
  by_cases hi : i < off ∨ off + v.cells.size ≤ i
  · rw [z2 i hi, splice_out hl (by simpa using hi), Array.getElem?_toList]
  · have : i = off + (i - off) := by omega
    rw [this, z3 _ (by omega), splice_in hl (by simp; omega)]
theorem fchk_places : ∀ {p : Ty} {fs : List Field} {off : Nat}, fchk P fs off p = true →
    ∃ places, fs.mapM (fun f => (P.info? f.type).map fun i => (f.offset, i.size)) = some places ∧ ∀ k u, tyAt p (fieldPath p k) = some u → places[k]? = some (off + offAt p (fieldPath p k), u.size) := by
  intro p fs off hf
  have hall : ∀ {p : Ty} {fs : List Field} {off : Nat}, fchk P fs off p = true → ∀ f ∈ fs, ∃ i, P.info? f.type = some i := by
    intro p
    have one : ∀ {p : Ty} {fs : List Field} {off : Nat}, (∀ a b, p ≠ .pair a b) → fchk P fs off p = true → ∀ f ∈ fs, ∃ i, P.info? f.type = some i := by
      intro p fs off hp hf f hm
      match fs, hf, hm with
      | [g], hf, hm =>
        have hf' : (g.offset == off && (P.info? g.type).any (fun i => i.size == p.size) && (aggOf P g.type == some p.isAgg) && (0 < p.size && !p.isPair)) = true := by
          cases p <;> first | exact absurd rfl (hp _ _) | exact hf
        simp only [Bool.and_eq_true] at hf'
        rw [List.mem_singleton] at hm
        subst hm
        cases hi : P.info? f.type with
        | none => rw [hi] at hf'; exact absurd hf'.1.1.2 (by simp)
        | some i => exact ⟨i, rfl⟩
      | [], hf, hm => cases hm
      | _ :: _ :: _, hf, _ => cases p <;> first | exact absurd rfl (hp _ _) | cases hf
    induction p with
    | pair a b _ ihb =>
      intro fs off hf f hm
      match fs, hf, hm with
      | g :: r, hf, hm =>
        rw [pair_free] at hf
        simp only [Bool.and_eq_true] at hf
        rcases List.mem_cons.1 hm with e | e
        · subst e
          cases hi : P.info? f.type with
          | none => rw [hi] at hf; exact absurd hf.1.1.1.2 (by simp)
          | some i => exact ⟨i, rfl⟩
        · exact ihb hf.2 f e
      | [], _, hm => cases hm
    | _ => intro fs off hf; exact one (by intro a b e; cases e) hf
  have hm : ∀ (fs : List Field), (∀ f ∈ fs, ∃ i, P.info? f.type = some i) → ∃ places, fs.mapM (fun f => (P.info? f.type).map fun i => (f.offset, i.size)) = some places ∧ ∀ (k : Nat) (f : Field) (i : TypeInfo), fs[k]? = some f → P.info? f.type = some i → places[k]? = some (f.offset, i.size) := by
    intro fs
    induction fs with
    | nil => intro _; exact ⟨[], by simp, fun k f i hk => by simp at hk⟩
    | cons f r ih =>
      intro h
      obtain ⟨i, hi⟩ := h f (by simp)
      obtain ⟨ps, h1, h2⟩ := ih (fun g hg => h g (by simp [hg]))
      refine ⟨(f.offset, i.size) :: ps, by simp [List.mapM_cons, hi, h1], fun k g j hk hj => ?_⟩
      cases k with
      | zero => cases hk; rw [hi] at hj; cases hj; rfl
      | succ k => exact h2 k g j hk hj
  obtain ⟨places, h1, h2⟩ := hm fs (hall hf)
  refine ⟨places, h1, fun k u hu => ?_⟩
  obtain ⟨f, k1, k2, ⟨i, k3, k4⟩, _⟩ := fchk_at hf hu
  rw [h2 k f i k1 k3, k2, k4]
theorem evFields_ok {p : Ty} {pth : Nat → List Step} {place : Nat → Option (Nat × Nat)} (hpl : ∀ k u, tyAt p (pth k) = some u → place k = some (offAt p (pth k), u.size)) :
    ∀ {parts : List (Nat × Operand)} {st st' : St} {S : Nat → Prop} {fr fr' : Bool} {x z : p.I} {cells : Array Value}, Inv B X w0 S ν st tmps w → Rd w (Av S B fr) p x cells.toList → evFields p pth parts st fr x = some (fr', z, st') →
      ∃ S', (∀ b, S' b → S b) ∧ Inv B X w0 S' ν st' tmps w ∧ ∃ cs, Instr.fill place cells (parts.map fun q => (q.1, (⟨tmps, ds⟩ : Act).eval q.2)) = some cs ∧ Rd w (Av S' B fr') p z cs.toList
  | [], st, st', S, fr, fr', x, z, cells, h, hx, hr => by
    cases hr
    exact ⟨S, fun _ h => h, h, cells, rfl, hx⟩
  | (k, o) :: r, st, st', S, fr, fr', x, z, cells, h, hx, hr => by
    unfold evFields at hr
    split at hr
    · rename_i s u hs hu
      split at hr
      · rename_i fr1 y hy
        split at hr
        · rename_i x1 hx1
          obtain ⟨S1, a1, a2, a3⟩ := give_ok h (opd_ok (ds := ds) h hs) hy
          have a3' := rd_fr a3
          have hmono : ∀ b, Av S1 B (fr && (fr1 || u.flat)) b → Av S B fr b := fun b hb => by
            rcases hb with hb | ⟨hb, hb'⟩
            · exact .inl (a1 b hb)
            · simp only [Bool.and_eq_true] at hb
              exact .inr ⟨hb.1, hb'⟩
          have hmono' : ∀ b, Av S1 B (fr && (fr1 || u.flat)) b → Av S1 B (fr1 || u.flat) b := fun b hb => by
            rcases hb with hb | ⟨hb, hb'⟩
            · exact .inl hb
            · simp only [Bool.and_eq_true] at hb
              exact .inr ⟨hb.2, hb'⟩
          have hxm : Rd w (Av S1 B (fr && (fr1 || u.flat))) p x cells.toList := hx.keep (Nat.le_refl _) (fun b _ hb => hmono b hb) (fun _ _ _ => rfl)
          have hym : Rd w (Av S1 B (fr && (fr1 || u.flat))) u y ((⟨tmps, ds⟩ : Act).eval o).cells.toList := a3'.cells.keep (Nat.le_refl _) (fun b _ hb => hmono' b hb) (fun _ _ _ => rfl)
          obtain ⟨_, k2⟩ := setAt_rd hxm hx1 hym
          have hyl := hym.len
          have hxl := hxm.len
          have hle := off_le hu
          simp only [Array.length_toList] at hyl hxl
          rw [← zip_splice _ _ _ (by omega)] at k2
          obtain ⟨S2, b1, b2, cs, b3, b4⟩ := evFields_ok hpl a2 k2 hr
          refine ⟨S2, fun b hb => a1 b (b1 b hb), b2, cs, ?_, b4⟩
          rw [List.map_cons]
          unfold Instr.fill
          have hn : ¬ (((⟨tmps, ds⟩ : Act).eval o).cells.size ≠ u.size || offAt p (pth k) + ((⟨tmps, ds⟩ : Act).eval o).cells.size > cells.size) = true := by
            simp [hyl]; omega
          simp only [hpl k u hu]
          rw [if_neg hn]
          exact b3
        · cases hr
      · cases hr
    · cases hr
def SliceOk (P : Program) (B : Nat) (X : Lnt) (w0 : World) (o : Oper) (tmps : Array Value) (ds : List Deferred) (w : World) (st' : St) : Prop :=
  ∃ v S' ν', (∀ w' : World, (execOp (⟨tmps, ds⟩ : Act).eval o).run P w' = .ok (.value v) w') ∧ Inv B X w0 S' ν' st' (Act.put ⟨tmps, ds⟩ o.dst v).tmps w
theorem evBuild_ok' (hG : CtxOk P G) (h : Inv B X w0 S ν st tmps w) {o : Oper} {t : TypeId} {parts : Array (Nat × Operand)} (ho : o.op = .build t parts) (hr : (evBuild G st o.dst t parts).run = some st') : SliceOk P B X w0 o tmps ds w st' := by
  unfold evBuild at hr
  split at hr
  · rename_i n e ht
    split at hr
    · cases hr
    · rename_i hpn
      split at hr
      · rename_i fr x st1 hf
        cases hr
        have hT := hG.ty _ _ ht
        obtain ⟨i, z, k1, k2, k3, k4, k5⟩ := ty_zero hT (by simpa [Ty.plain] using hpn)
        obtain ⟨cs0, rfl⟩ := k5.1 rfl
        obtain ⟨t', e1, ⟨i', e2, e3⟩, _⟩ := arr_desc hT
        have hz : Rd w (Av S B true) (.arr n e) (List.replicate n e.zero) cs0.toList := zchk_rd (w := w) (S := Av S B true) k4
        obtain ⟨S1, a1, a2, cs, a3, a4⟩ := evFields_ok (ds := ds) (p := .arr n e) (pth := fun k => [.at k]) (place := fun q => some (q * i'.size, i'.size)) (fun k u hu => by
          have h2 : (if 0 ≤ (k : Int) ∧ (k : Int).toNat < n then tyAt e [] else none) = some u := hu
          split at h2
          · rw [tyAt_nil] at h2
            cases h2
            show some (k * i'.size, i'.size) = some ((k : Int).toNat * e.size + offAt e [], e.size)
            rw [offAt_nil, e3]; rfl
          · cases h2) h hz hf
        have hb : P.built t (parts.map fun q => (q.1, (⟨tmps, ds⟩ : Act).eval q.2)).toList = some cs := by
          unfold Program.built
          simp only [k1, e1, k3, e2, Array.toList_map]
          exact a3
        have hrun := run_build w t _ cs hb
        have hv : RdV w (Av S1 B fr) (.arr n e) x (.agg cs) := ⟨cs.toList, a4, by simp [mkV]⟩
        exact ⟨.agg cs, _, _, fun w' => by simp only [execOp, ho]; simp [run_build w' t _ cs hb], (a2.put (s := .val fr (.arr n e) x) hv o.dst ds)⟩
      · cases hr
  · rename_i p ht
    split at hr
    · cases hr
    · rename_i hpn
      split at hr
      · rename_i fr x st1 hf
        cases hr
        have hT := hG.ty _ _ ht
        obtain ⟨i, z, k1, k2, k3, k4, k5⟩ := ty_zero hT (by simpa [Ty.plain] using hpn)
        obtain ⟨cs0, rfl⟩ := k5.1 rfl
        obtain ⟨d, e1, c1⟩ := hT.desc
        cases d <;> simp only [dchk] at c1 <;> try contradiction
        rename_i fs
        obtain ⟨places, q1, q2⟩ := fchk_places c1
        have hz : Rd w (Av S B true) p p.zero cs0.toList := by
          have := zchk_rd (w := w) (S := Av S B true) k4
          have h2 : Rd w (Av S B true) (.st p) p.zero cs0.toList := this
          unfold Rd at h2
          exact h2
        obtain ⟨S1, a1, a2, cs, a3, a4⟩ := evFields_ok (ds := ds) (pth := fieldPath p) (place := (places.toArray[·]?)) (fun k u hu => by
          have := q2 k u hu
          rw [Nat.zero_add] at this
          simpa using this) h hz hf
        have hb : P.built t (parts.map fun q => (q.1, (⟨tmps, ds⟩ : Act).eval q.2)).toList = some cs := by
          unfold Program.built
          simp only [k1, e1, k3, q1, Array.toList_map]
          exact a3
        have hrun := run_build w t _ cs hb
        have hv : RdV w (Av S1 B fr) (.st p) x (.agg cs) := ⟨cs.toList, by unfold Rd; exact a4, by simp [mkV]⟩
        exact ⟨.agg cs, _, _, fun w' => by simp only [execOp, ho]; simp [run_build w' t _ cs hb], (a2.put (s := .val fr (.st p) x) hv o.dst ds)⟩
      · cases hr
  · cases hr
theorem evBuild_ok (hG : CtxOk P G) (h : Inv B X w0 S ν st tmps w) {o : Oper} {t : TypeId} {parts : Array (Nat × Operand)} (ho : o.op = .build t parts) (hr : (evBuild G st o.dst t parts).run = some st') : MemOk P Λ B X w0 o tmps ds w st' :=
  let ⟨_, _, _, h1, h2⟩ := evBuild_ok' (ds := ds) hG h ho hr
  memOk_val (h1 w) h2 (fun _ => Ext.refl w)
theorem evBox_ok (hG : CtxOk P G) (h : Inv B X w0 S ν st tmps w) {o : Oper} {t : TypeId} {x : Option Operand} (ho : o.op = match x with | none => .alloc t | some x => .box t x) (hr : (evBox G st o.dst t x).run = some st') : MemOk P Λ B X w0 o tmps ds w st' := by
  unfold evBox at hr
  split at hr
  · rename_i u d ht hd
    have hT := hG.ty _ _ ht
    split at hr
    · split at hr
      · cases hr
      · rename_i hpn
        cases hr
        obtain ⟨i, z, k1, k2, k3, k4, k5⟩ := ty_zero hT (by simpa using hpn)
        have hz : RdV w (Av S B true) u u.zero z := by
          refine ⟨z.cells.toList, zchk_rd k4, ?_⟩
          have hl : z.cells.toList.length = u.size := (zchk_rd (w := w) (S := fun _ => False) k4).len
          cases hu : u.isAgg with
          | true =>
            obtain ⟨cs, rfl⟩ := k5.1 hu
            cases u <;> simp_all [Ty.isAgg, mkV, Value.cells]
          | false =>
            have hna : ∀ cs, z ≠ .agg cs := fun cs e => by rw [hu] at k5; exact absurd (k5.2 ⟨cs, e⟩) (by simp)
            have hzc : z.cells = #[z] := by cases z <;> first | rfl | exact absurd rfl (hna _)
            have hnp := no_pair hT
            cases u <;> first | (cases hu; done) | exact absurd rfl (hnp _ _) | simp [mkV, hzc]
        refine box_mem h hd hz ?_
        simp only [execOp, ho]
        simp [Instr.alloc, zeroValue, typeInfo, k1, k3, newVar, newRow]
    · rename_i x
      split at hr
      · rename_i s hs
        split at hr
        · rename_i fr y hy
          cases hr
          obtain ⟨S1, a1, a2, a3⟩ := give_ok h (opd_ok (ds := ds) h hs) hy
          refine box_mem a2 hd (rd_fr a3) ?_
          simp only [execOp, ho]
          simp [Instr.box, newVar, newRow]
        · cases hr
      · cases hr
  · cases hr
theorem rows_rep {S : Nat → Prop} {e : Ty} {z : Value} (hz : zchk e z.cells.toList = true) (_hp : 0 < e.size) {n c : Nat} (hnc : n ≤ c) {cs : Array Value} (_hsz : cs.size = c * e.size) (hcs : ∀ j, j < c * e.size → cs[j]? = some (z.cells[j % z.cells.size]!)) :
    RowRd w S e (List.replicate n e.zero) cs.toList := by
  have hrd := zchk_rd (w := w) (S := S) hz
  have hl := hrd.len
  simp only [Array.length_toList] at hl
  intro j x hj
  have hjn : j < n := by
    rcases Nat.lt_or_ge j n with h' | h'
    · exact h'
    · rw [List.getElem?_eq_none (by simpa using h')] at hj; cases hj
  rw [List.getElem?_replicate, if_pos hjn] at hj
  cases hj
  refine ⟨_, hrd, fun i u hu => ?_⟩
  have hil : i < e.size := by
    rcases Nat.lt_or_ge i z.cells.toList.length with h' | h'
    · rw [Array.length_toList] at h'; omega
    · rw [List.getElem?_eq_none h'] at hu; cases hu
  have hm : (j + 1) * e.size ≤ c * e.size := Nat.mul_le_mul_right _ (by omega)
  rw [Nat.add_mul] at hm
  rw [Array.getElem?_toList, hcs _ (by omega), hl, show j * e.size + i = i + e.size * j from by rw [Nat.mul_comm]; omega, Nat.add_mul_mod_self_left, Nat.mod_eq_of_lt hil]
  rw [Array.getElem?_toList] at hu
  rw [getElem!_def, hu]
theorem mk_some {α : Type} {lim : Nat} {z : α} {n : Int} {xs : List α} (h : mk lim z n = some xs) : 0 ≤ n ∧ n ≤ lim ∧ xs = List.replicate n.toNat z := by
  unfold mk at h
  split at h
  · rename_i hc; cases h; exact ⟨hc.1, hc.2, rfl⟩
  · cases h
theorem madeCells_get (z : Array Value) (n j : Nat) (h : j < n) : (madeCells z n)[j]? = some (z[j % z.size]!) := by
  unfold madeCells
  simp [h]
theorem make_mem (hG : CtxOk P G) (h : Inv B X w0 S ν st tmps w) {o : Oper} {t : TypeId} {n c : Operand} (ho : o.op = .makeSlice t n c) {g : SlInfo} (hg : olook t G.sls = some g) (hpl : g.e.plain = true) {d : Nat} (hd : o.dst = some d)
    {k k' : IntKind} {n' c' : Int} (hn : (⟨tmps, ds⟩ : Act).eval n = .int k n') (hc : (⟨tmps, ds⟩ : Act).eval c = .int k' c') (h0 : 0 ≤ n') (h1 : n' ≤ c') (h2 : c' ≤ g.lim) :
    MemOk P Λ B X w0 o tmps ds w ((st.new d ⟨g.eid, true, g.e, List.replicate n'.toNat g.e.zero⟩).set d (.ref d)) := by
  have hsl := hG.sl _ _ hg
  obtain ⟨i, z, k1, k2, k3, k4, _⟩ := ty_zero hsl.ty hpl
  obtain ⟨i', m1, m2⟩ := hsl.lim
  rw [k1] at m1
  cases m1
  have hmx := hsl.max
  simp only [maxLen] at hmx
  have hbytes : (i.bytes : Int) * c' ≤ 281474976710656 := by
    have e : c' = ((c'.toNat : Nat) : Int) := by omega
    rw [e]
    have : c'.toNat * i.bytes ≤ g.lim * i.bytes := Nat.mul_le_mul_right _ (by omega)
    have h3 : i.bytes * c'.toNat ≤ 281474976710656 := by rw [Nat.mul_comm]; omega
    have h4 : ((i.bytes * c'.toNat : Nat) : Int) ≤ 281474976710656 := by omega
    rwa [Int.natCast_mul] at h4
  have hrun := run_make (P := P) w t g.eid i z hsl.und k1 k3 k k' n' c' h0 h1 hbytes (by omega)
  have hsz : (madeCells z.cells (c'.toNat * i.size)).size = c'.toNat * g.e.size := by rw [size_madeCells, k2]
  refine row_mem h hd (cap := c'.toNat) (rows_rep k4 hsl.ty.pos (by omega) hsz (fun j hj => ?_)) hsz (by simp; omega) (by simp only [maxLen]; omega) ?_
  · exact madeCells_get _ _ _ (by rw [k2]; exact hj)
  · rw [List.length_replicate]
    simp only [execOp, ho, hn, hc]
    simp [hrun]
theorem same_opd {x y : Operand} (h : sameOpd x y = true) {k : IntKind} {m : Int} (hx : (⟨tmps, ds⟩ : Act).eval x = .int k m) : ∃ k', (⟨tmps, ds⟩ : Act).eval y = .int k' m := by
  unfold sameOpd at h
  split at h
  · rw [nbeq] at h; subst h; exact ⟨k, hx⟩
  · rename_i k1 a k2 b
    simp only [beq_iff_eq] at h
    subst h
    have hx' : Value.int k1 a = .int k m := hx
    cases hx'
    exact ⟨k2, rfl⟩
  · cases h
theorem evMake_ok (hG : CtxOk P G) (h : Inv B X w0 S ν st tmps w) {o : Oper} {t : TypeId} {n c : Operand} (ho : o.op = .makeSlice t n c) (hr : (evMake G st o.dst t n c).run = some st') : MemOk P Λ B X w0 o tmps ds w st' := by
  unfold evMake at hr
  split at hr
  · rename_i g d f1 n' f2 c' hg hd hn hc
    have en := val_int (opd_ok (ds := ds) h hn)
    have ec := val_int (opd_ok (ds := ds) h hc)
    split at hr
    · cases hr
    · rename_i hp
      have hp : g.e.plain = true := by simpa using hp
      split at hr
      · rename_i hs
        obtain ⟨xs, hx, hr⟩ := run_bnd hr
        cases hr
        obtain ⟨h0, h1, rfl⟩ := mk_some hx
        obtain ⟨k', e2⟩ := same_opd (ds := ds) hs en
        exact make_mem hG h ho hg hp hd en e2 h0 (Int.le_refl _) h1
      · rcases run_br hr with ⟨hb, hr⟩ | ⟨_, hr⟩
        · simp only [Bool.and_eq_true, decide_eq_true_eq] at hb
          obtain ⟨xs, hx, hr⟩ := run_bnd hr
          cases hr
          obtain ⟨h0, _, rfl⟩ := mk_some hx
          exact make_mem hG h ho hg hp hd en ec h0 hb.1 hb.2
        · cases hr
  · cases hr
theorem take_row {S : Nat → Prop} {e : Ty} {xs : List e.I} {cs : List Value} (h : RowRd w S e xs cs) (n : Nat) : RowRd w S e (xs.take n) (cs.take (n * e.size)) := by
  intro j x hj
  rw [List.getElem?_take] at hj
  split at hj
  · rename_i hjn
    obtain ⟨us, k1, k2⟩ := h j x hj
    refine ⟨us, k1, fun i u hu => ?_⟩
    have hil : i < e.size := by
      rcases Nat.lt_or_ge i us.length with h' | h'
      · rw [k1.len] at h'; exact h'
      · rw [List.getElem?_eq_none h'] at hu; cases hu
    have : (j + 1) * e.size ≤ n * e.size := Nat.mul_le_mul_right _ hjn
    rw [Nat.add_mul] at this
    rw [List.getElem?_take, if_pos (by omega)]
    exact k2 i u hu
  · cases hj
theorem evSlice_ok' (hG : CtxOk P G) (h : Inv B X w0 S ν st tmps w) {o : Oper} {t : TypeId} {x : Operand} {lo hi mx : Option Operand} (ho : o.op = .slice t x lo hi mx) (hr : (evSlice G A st o.dst t x lo hi mx).run = some st') : SliceOk P B X w0 o tmps ds w st' := by
  unfold evSlice at hr
  split at hr
  · rename_i d g hd hg
    have hput : ∀ v, (Act.put ⟨tmps, ds⟩ o.dst v).tmps = tmps.setIfInBounds d v := fun v => by rw [hd]; rfl
    split at hr
    · rename_i fr e xs hx
      split at hr
      · rename_i he
        subst he
        split at hr
        · rename_i l' h' hl hh
          obtain ⟨ys, hc, hr⟩ := run_bnd hr
          cases hr
          obtain ⟨v, hy, hv, _⟩ := evSlice_val hG h ho hg (opd_ok (ds := ds) h hx) hl hh hc
          have h2 := h.set (s := .val fr (.sl g.e) ys) hv d
          rw [← hput] at h2
          exact ⟨_, _, _, hy, h2⟩
        · cases hr
      · cases hr
    · rename_i tag hx
      split at hr
      · rename_i ob hob
        split at hr
        · cases hr
        · rename_i he
          have he : ob.e = g.e := by simpa using he
          obtain ⟨e1, e2⟩ := ref_val h (opd_ok (ds := ds) h hx) hob
          obtain ⟨eid, fr, e, xs⟩ := ob
          dsimp only at he e2 hr
          subst he
          split at hr
          · rename_i l' h' hl hh
            split at hr
            · split at hr
              · obtain ⟨ys, hc, hr⟩ := run_bnd hr
                cases hr
                obtain ⟨c1, c2, c3, rfl⟩ := cut_some hc
                have hb : bound none 0 0 := .inl ⟨rfl, rfl⟩
                have hb' := high_bound (ds := ds) h hh
                obtain ⟨cs, hown, hrow⟩ := e2
                obtain ⟨i, k1, k2, _⟩ := (hG.sl _ _ hg).ty.info
                have hsl : ∃ A cap, ν tag = .slice A xs.length cap ∧ xs.length ≤ cap := obj_slice (o := ⟨eid, fr, g.e, xs⟩) ⟨cs, hown, hrow⟩
                obtain ⟨A1, cap, s1, s2⟩ := hsl
                have hys : ((xs.take h'.toNat).drop (0 : Int).toNat) = xs.take h'.toNat := by simp
                have hyl : (xs.take h'.toNat).length = h'.toNat := by rw [List.length_take]; omega
                have hv' : ∀ A2 : Option Addr, (if cap = (0 : Int).toNat then A2 else A2.map (·.add ((0 : Int).toNat * i.size))) = A2 := by
                  intro A2
                  split
                  · rfl
                  · cases A2 <;> simp [Addr.add]
                have hyield : ∀ w' : World, (execOp (⟨tmps, ds⟩ : Act).eval o).run P w' = .ok (.value (.slice A1 h'.toNat cap)) w' := by
                  intro w'
                  simp only [execOp, ho, e1, s1]
                  have hrun := run_sliceAt (P := P) (hG.sl _ _ hg).und k1 (A := A1) hb hb' c1 c2 c3 s2 w'
                  rw [hv'] at hrun
                  simp only [Int.toNat_zero, Nat.sub_zero] at hrun
                  simp [hrun]
                rw [hys]
                -- the row, cut
                have hobj : ObjRd B w S (.slice A1 h'.toNat cap) ⟨eid, fr, g.e, xs.take h'.toNat⟩ := by
                  refine ⟨cs.take (h'.toNat * g.e.size), ⟨?_, ?_⟩, take_row hrow _⟩
                  · have : h'.toNat * g.e.size ≤ xs.length * g.e.size := Nat.mul_le_mul_right _ (by omega)
                    rw [List.length_take, hown.1]
                    show min _ (xs.length * g.e.size) = (xs.take h'.toNat).length * g.e.size
                    rw [hyl]; omega
                  · show _ ∨ _
                    rcases hown.2 with ⟨f1, f2⟩ | ⟨gg, cap', cur, f1, f2, f3, f4, f5, f6, f7⟩
                    · left
                      rw [s1] at f1
                      have f2 : xs.length = 0 := f2
                      have h0 : h'.toNat = 0 := by omega
                      injection f1 with a1 a2 a3
                      exact ⟨by rw [a1, a3, h0], hyl.trans h0⟩
                    · right
                      rw [s1] at f1
                      cases f1
                      refine ⟨gg, cap, cur, by rw [hyl], f2, f3, ?_, f5, f6, ?_⟩
                      · show (xs.take h'.toNat).length ≤ cap
                        omega
                      · show List.take ((xs.take h'.toNat).length * g.e.size) cur.toList = _
                        have f7 : List.take (xs.length * g.e.size) cur.toList = cs := f7
                        have : h'.toNat * g.e.size ≤ xs.length * g.e.size := Nat.mul_le_mul_right _ (by omega)
                        rw [hyl, ← f7, List.take_take, Nat.min_eq_left this]
                have hblk : ∀ b, (Value.slice A1 h'.toNat cap).ownBlock = some b → (ν tag).ownBlock = some b := by
                  intro b hb
                  rw [s1]
                  cases A1 <;> exact hb
                have h2 := h.new (tag := tag) (o := ⟨eid, fr, g.e, xs.take h'.toNat⟩) (v' := .slice A1 h'.toNat cap) (r := (ν tag).ownBlock) (World.grownBy.refl w _) (fun b hb => ⟨hb, _, hob⟩) (fun b hb => .inl (hblk b hb))
                  (hobj.mono (World.grownBy.refl w none) (fun b _ hs => by
                    rcases hs with hs | hs
                    · exact hs
                    · exact h.own tag _ b hob (hblk b hs)))
                have h3 := set_ref h2 (tag := tag) look_new d
                rw [upd_same, ← hput] at h3
                exact ⟨_, _, _, hyield, h3⟩
              · cases hr
            · obtain ⟨ys, hc, hr⟩ := run_bnd hr
              cases hr
              have hv0 : RdV w (fun k => S k ∧ (ν tag).ownBlock ≠ some k) (.sl g.e) xs ((⟨tmps, ds⟩ : Act).eval x) := by
                rw [e1]
                exact e2.val fun b hb hs => ⟨.inl hs.1, hs.2⟩
              obtain ⟨v, hy, hv, hwin⟩ := evSlice_val hG h ho hg hv0 hl hh hc
              have hsp : ∀ ad n c, ν tag = .slice (some ad) n c → ad.spot = none := by
                intro ad n c e
                obtain ⟨cs, hown, _⟩ := e2
                rcases hown.2 with ⟨e3, _⟩ | ⟨b, cap, cur, e3, _⟩
                · rw [e3] at e; cases e
                · rw [e3] at e; cases e; rfl
              rw [e1] at hwin
              have h2 := h.set (s := .view tag l'.toNat fr g.e ys) (v := v) ⟨⟨_, hob⟩, hv, hwin hsp⟩ d
              rw [← hput] at h2
              exact ⟨_, _, _, hy, h2⟩
          · cases hr
      · cases hr
    · rename_i hx
      have hv0 : Slot1Rd B X w S ν st.objs .lref _ := opd_ok (ds := ds) h hx
      split at hr
      · rename_i ob hob
        obtain ⟨eid, fr, e, xs⟩ := ob
        split at hr
        · cases hr
        · rename_i he
          have he : e = g.e := by simpa using he
          subst he
          split at hr
          · rename_i l' h' hl hh
            obtain ⟨ys, hc, hr⟩ := run_bnd hr
            cases hr
            have hw := h.win _ hob
            have hv1 : RdV w (fun b => S b ∧ X.v.ownBlock ≠ some b) (.sl g.e) xs ((⟨tmps, ds⟩ : Act).eval x) := by
              rw [hv0]
              exact hw.val (fun b hb => h.lt b (h.lx b hb).1) (fun b hb hs => ⟨.inl hs.1, hs.2⟩)
            obtain ⟨v, hy, hv, hwin⟩ := evSlice_val hG h ho hg hv1 hl hh hc
            have hsp : ∀ ad n c, X.v = .slice (some ad) n c → ad.spot = none := by
              intro ad n c e
              obtain ⟨cs, _, _, hw2⟩ := hw
              rcases hw2 with ⟨e3, _⟩ | ⟨b, cap, cur, e3, _⟩
              · rw [e3] at e; cases e
              · rw [e3] at e; cases e; rfl
            rw [hv0] at hwin
            have h2 := h.set (s := .lview l'.toNat g.e ys) (v := v) ⟨hv, hwin hsp⟩ d
            rw [← hput] at h2
            exact ⟨_, _, _, hy, h2⟩
          · cases hr
      · cases hr
    · cases hr
  · cases hr
theorem evSlice_ok (hG : CtxOk P G) (h : Inv B X w0 S ν st tmps w) {o : Oper} {t : TypeId} {x : Operand} {lo hi mx : Option Operand} (ho : o.op = .slice t x lo hi mx) (hr : (evSlice G A st o.dst t x lo hi mx).run = some st') : MemOk P Λ B X w0 o tmps ds w st' :=
  let ⟨_, _, _, h1, h2⟩ := evSlice_ok' (ds := ds) hG h ho hr
  memOk_val (h1 w) h2 (fun hg => by simp [growOp, ho] at hg)
end Go.Proofs.YtnldcpanpojeiaaGreatDoor
