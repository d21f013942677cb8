/-
  Slices and structs that are written out; boxes; make; append.
-/
import Derived.Test.YtnldcpanpojeiaaGreatDoorEvMem2
namespace Go.Proofs.YtnldcpanpojeiaaGreatDoor
open Go.RowKit
variable {P : Program} {Λ : List Nat} {G : Ctx} {A : Ann} {B : Nat} {X : Lnt} {w0 w w' : World} {S S' : Nat → Prop} {ν : Nat → Value} {st st' : St} {tmps : Array Value} {ds : List Deferred}
theorem zip_fold (off : Nat) : ∀ (cs : List Value) (k : Nat) (acc : Array Value), off + k + cs.length ≤ acc.size →
    let r := (cs.zipIdx k).foldl (fun a (p : Value × Nat) => a.setIfInBounds (off + p.2) p.1) acc
    r.size = acc.size ∧ (∀ i, i < off + k ∨ off + k + cs.length ≤ i → r[i]? = acc[i]?) ∧ ∀ i, i < cs.length → r[off + k + i]? = cs[i]?
  | [], k, acc, _ => ⟨rfl, fun _ _ => rfl, fun i hi => by simp at hi⟩
  | c :: cs, k, acc, h => by
    simp only [List.length_cons] at h
    obtain ⟨h1, h2, h3⟩ := zip_fold off cs (k + 1) (acc.setIfInBounds (off + k) c) (by simp; omega)
    simp only [List.zipIdx_cons, List.foldl_cons]
    refine ⟨by rw [h1]; simp, fun i hi => ?_, fun i hi => ?_⟩
    · rw [h2 i (by simp only [List.length_cons] at hi; omega), Array.getElem?_setIfInBounds_ne (by simp only [List.length_cons] at hi; omega)]
    · cases i with
      | zero =>
        rw [h2 _ (by omega)]
        simp only [Nat.add_zero, List.getElem?_cons_zero]
        rw [Array.getElem?_setIfInBounds_self_of_lt (by omega)]
      | succ i =>
        have := h3 i (by simp at hi; omega)
        rw [List.getElem?_cons_succ, ← this]
        congr 1
        omega
theorem fill_row (size : Nat) : ∀ (parts : List (Nat × Value)) (k : Nat) (cells0 : Array Value), (∀ (j : Nat) (p : Nat × Value), parts[j]? = some p → p.1 = k + j ∧ p.2.cells.size = size) → (k + parts.length) * size ≤ cells0.size →
    ∃ cells, Instr.fill (fun i => some (i * size, size)) cells0 parts = some cells ∧ cells.size = cells0.size ∧ (∀ i, i < k * size → cells[i]? = cells0[i]?) ∧
      ∀ (j : Nat) (p : Nat × Value), parts[j]? = some p → ∀ i, i < size → cells[(k + j) * size + i]? = p.2.cells[i]?
  | [], k, cells0, _, _ => ⟨cells0, rfl, rfl, fun _ _ => rfl, fun j p hp => by simp at hp⟩
  | (i0, v) :: rest, k, cells0, h, hle => by
    obtain ⟨e1, e2⟩ := h 0 _ rfl
    have e1 : i0 = k := e1
    have e2 : v.cells.size = size := e2
    simp only [List.length_cons] at hle
    have hk1 : (k + 1) * size ≤ (k + (rest.length + 1)) * size := Nat.mul_le_mul_right _ (by omega)
    have hk2 : (k + 1) * size = k * size + size := by rw [Nat.add_mul]; omega
    obtain ⟨z1, z2, z3⟩ := zip_fold (k * size) v.cells.toList 0 cells0 (by simp [e2]; omega)
    simp only [Nat.add_zero, Array.length_toList] at z1 z2 z3
    obtain ⟨cells, f1, f2, f3, f4⟩ := fill_row size rest (k + 1) ((v.cells.toList.zipIdx 0).foldl (fun a (p : Value × Nat) => a.setIfInBounds (k * size + p.2) p.1) cells0)
      (fun j p hp => by have := h (j + 1) p hp; exact ⟨by omega, this.2⟩) (by rw [z1, show k + 1 + rest.length = k + (rest.length + 1) from by omega]; exact hle)
    refine ⟨cells, ?_, by rw [f2, z1], fun i hi => ?_, fun j p hp i hi => ?_⟩
    · unfold Instr.fill
      have hn : ¬ (v.cells.size ≠ size || k * size + v.cells.size > cells0.size) = true := by
        simp [e2]; omega
      subst e1
      simp only [hn, if_false, Bool.false_eq_true]
      rw [← f1]
      congr 1
      rw [← Array.foldl_toList, Array.toList_zipIdx]
    · rw [f3 i (by omega), z2 i (by omega)]
    · cases j with
      | zero =>
        cases hp
        rw [Nat.add_zero, f3 _ (by omega), z3 i (by omega)]
        simp
      | succ j =>
        have := f4 j p hp i hi
        rw [← this, show k + 1 + j = k + (j + 1) from by omega]
theorem evParts_ok {e : Ty} : ∀ {parts : List (Nat × Operand)} {k : Nat} {st st' : St} {S : Nat → Prop} {fr : Bool} {ys : List e.I}, Inv B X w0 S ν st tmps w → evParts e k parts st = some (fr, ys, st') →
    ∃ S', (∀ b, S' b → S b) ∧ Inv B X w0 S' ν st' tmps w ∧ ys.length = parts.length ∧
      ∀ (j : Nat) (p : Nat × Operand), parts[j]? = some p → p.1 = k + j ∧ ∃ y, ys[j]? = some y ∧ RdV w (Av S' B fr) e y ((⟨tmps, ds⟩ : Act).eval p.2)
  | [], k, st, st', S, fr, ys, h, hr => by
    cases hr
    exact ⟨S, fun _ h => h, h, rfl, fun j p hp => by simp at hp⟩
  | (i, x) :: r, k, st, st', S, fr, ys, h, hr => by
    unfold evParts at hr
    split at hr
    · rename_i hik
      have hik := nbeq.1 hik
      split at hr
      · rename_i s hs
        split at hr
        · rename_i fr1 y hy
          split at hr
          · rename_i fr2 ys2 st2 h2
            cases hr
            obtain ⟨S1, a1, a2, a3⟩ := give_ok h (opd_ok (ds := ds) h hs) hy
            obtain ⟨S2, b1, b2, b3, b4⟩ := evParts_ok a2 h2
            refine ⟨S2, fun b hb => a1 b (b1 b hb), b2, by simp [b3], fun j p hp => ?_⟩
            cases j with
            | zero =>
              cases hp
              refine ⟨hik, y, rfl, (rd_fr a3).keep (Nat.le_refl _) (fun b _ hb => ?_) (fun _ _ _ => rfl)⟩
              rcases hb with hb | ⟨hb, hb'⟩
              · exact .inl (b1 b hb)
              · simp only [Bool.and_eq_true] at hb
                exact .inr ⟨hb.1, hb'⟩
            | succ j =>
              obtain ⟨c1, z, c2, c3⟩ := b4 j p hp
              refine ⟨by omega, z, c2, c3.keep (Nat.le_refl _) (fun b _ hb => ?_) (fun _ _ _ => rfl)⟩
              rcases hb with hb | ⟨hb, hb'⟩
              · exact .inl hb
              · simp only [Bool.and_eq_true] at hb
                exact .inr ⟨hb.2, hb'⟩
          · cases hr
        · cases hr
      · cases hr
    · cases hr
theorem ty_zero {t : TypeId} {τ : Ty} (h : TyOk P t τ) (hp : τ.plain = true) : ∃ i z, P.info? t = some i ∧ i.size = τ.size ∧ i.zero = some z ∧ zchk τ z.cells.toList = true ∧ (τ.isAgg = true ↔ ∃ cs, z = .agg cs) := by
  obtain ⟨i, h1, h2, h3⟩ := h.info
  obtain ⟨z, h4, h5, h6⟩ := h3 hp
  exact ⟨i, z, h1, h2, h4, h5, h6⟩
theorem evBuildSlice_ok (hG : CtxOk P G) (h : Inv B X w0 S ν st tmps w) {o : Oper} {t : TypeId} {n : Nat} {parts : Array (Nat × Operand)} (ho : o.op = .buildSlice t n parts)
    (hr : (evBuildSlice G st o.dst t n parts).run = some st') : MemOk P Λ B X w0 o tmps ds w st' := by
  unfold evBuildSlice at hr
  split at hr
  · rename_i g d hg hd
    split at hr
    · rename_i hc
      simp only [Bool.and_eq_true] at hc
      have hn := nbeq.1 hc.1.1
      have hsz := Nat.le_of_ble_eq_true hc.1.2
      split at hr
      · rename_i fr xs st1 hp
        cases hr
        obtain ⟨S1, a1, a2, a3, a4⟩ := evParts_ok (ds := ds) h hp
        have hsl := hG.sl _ _ hg
        obtain ⟨i, z, k1, k2, k3, k4, _⟩ := ty_zero hsl.ty hc.2
        have hlen : xs.length = n := by rw [a3, hn]
        -- the cells
        have hparts : ∀ (j : Nat) (p : Nat × Value), (parts.toList.map fun p => (p.1, (⟨tmps, ds⟩ : Act).eval p.2))[j]? = some p → p.1 = 0 + j ∧ p.2.cells.size = g.e.size := by
          intro j p hj
          rw [List.getElem?_map] at hj
          cases hq : parts.toList[j]? with
          | none => rw [hq] at hj; cases hj
          | some q =>
            rw [hq] at hj
            cases hj
            obtain ⟨c1, y, _, c3⟩ := a4 j q hq
            exact ⟨c1, by have := c3.cells.len; simpa using this⟩
        let zero : Array Value := if n * i.size = 0 then #[] else z.cells
        let c0 : Array Value := (Array.range (n * i.size)).map (zero[· % zero.size]!)
        have hc0 : c0.size = n * g.e.size := by simp [c0, k2]
        obtain ⟨cells, f1, f2, _, f4⟩ := fill_row g.e.size (parts.toList.map fun p => (p.1, (⟨tmps, ds⟩ : Act).eval p.2)) 0 c0 hparts (by rw [hc0, List.length_map, ← hn]; simp)
        refine row_mem a2 hd (cs := cells) (cap := n) ?_ (by rw [f2, hc0]) (by omega) ?_ ?_
        · intro j x hj
          have hjn : j < parts.toList.length := by
            rcases Nat.lt_or_ge j parts.toList.length with h' | h'
            · exact h'
            · rw [List.getElem?_eq_none (by omega)] at hj; cases hj
          obtain ⟨_, y, c2, c3⟩ := a4 j _ (List.getElem?_eq_getElem hjn)
          rw [hj] at c2
          cases c2
          refine ⟨_, c3.cells, fun q u hq => ?_⟩
          have hql : q < g.e.size := by
            rcases Nat.lt_or_ge q ((⟨tmps, ds⟩ : Act).eval parts.toList[j].2).cells.toList.length with h' | h'
            · rw [c3.cells.len] at h'; exact h'
            · rw [List.getElem?_eq_none h'] at hq; cases hq
          have := f4 j (parts.toList[j].1, (⟨tmps, ds⟩ : Act).eval parts.toList[j].2) (by rw [List.getElem?_map, List.getElem?_eq_getElem hjn]; rfl) q hql
          rw [Nat.zero_add] at this
          rw [Array.getElem?_toList, this, ← Array.getElem?_toList]
          exact hq
        · have : n * 1 ≤ n * g.e.size := Nat.mul_le_mul_left _ hsl.ty.pos
          simp only [maxLen]
          omega
        · rw [hlen]
          simp only [execOp, ho]
          have hns : ¬ n * i.size > 2 ^ 24 := by rw [k2]; omega
          have f1' : Instr.fill (fun j => some (j * i.size, i.size)) c0 (parts.toList.map fun x => (x.1, (⟨tmps, ds⟩ : Act).eval x.2)) = some cells := by
            rw [k2]; exact f1
          have hS : ∀ w', (sizeOf g.eid).run P w' = .ok i.size w' := fun w' => by simp [sizeOf, typeInfo, k1]
          have hZ : ∀ w', (zeroValue g.eid).run P w' = .ok z w' := fun w' => by simp [zeroValue, typeInfo, k1, k3]
          have hrun : (Instr.buildSlice t n (parts.map fun x => (x.1, (⟨tmps, ds⟩ : Act).eval x.2))).run P w = .ok (.slice (some ⟨w.heap.size, 0, none⟩) n n) (w.alloc (.cells cells g.eid)) := by
            have hns' : ¬ 16777216 < n * i.size := by rw [k2]; omega
            by_cases hz0 : n * i.size = 0
            · have hc : c0 = #[] := Array.eq_empty_of_size_eq_zero (by rw [hc0, ← k2, hz0])
              rw [hc] at f1'
              simp [Instr.buildSlice, run_underlying hsl.und, hS, hz0, newRow, Array.range_zero', f1']
            · have hc : c0 = (Array.range (n * i.size)).map (z.cells[· % z.cells.size]!) := by simp only [c0, zero, if_neg hz0]
              rw [hc] at f1'
              simp [Instr.buildSlice, run_underlying hsl.und, hS, hZ, hz0, hns', newRow, f1']
          simp [hrun]
      · cases hr
    · cases hr
  · cases hr
end Go.Proofs.YtnldcpanpojeiaaGreatDoor
