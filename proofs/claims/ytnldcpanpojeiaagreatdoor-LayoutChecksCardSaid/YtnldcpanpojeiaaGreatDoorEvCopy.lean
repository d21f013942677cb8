/-
  The builtin copy: a callee that writes to a window of a row of flat elements.
-/
import Derived.Test.YtnldcpanpojeiaaGreatDoorEvFunV
import Derived.Laws.CopyRow
import Derived.Laws.IdiomCopy
namespace Go.Proofs.YtnldcpanpojeiaaGreatDoor
open Go.RowKit
variable {P : Program} {Λ : List Nat} {G : Ctx} {A : Ann} {T : FuncId → Option Callee} {B : Nat} {X : Lnt} {w0 w w' : World} {S S' : Nat → Prop} {ν : Nat → Value} {st st' : St} {tmps : Array Value} {ds : List Deferred}
theorem WinRd.kept {o : Obj} (h : WinRd w S X o) (n : Nat) : Kept n X w w := by
  refine ⟨rfl, rfl, rfl, Nat.le_refl _, fun _ _ _ _ => rfl, fun b hb => ?_⟩
  obtain ⟨cs, _, _, h⟩ := h
  rcases h with ⟨e, _⟩ | ⟨b', cap, cur, e, _, _, k, _⟩
  · rw [e] at hb; cases hb
  · rw [e] at hb
    cases hb
    exact ⟨cur, cur, _, k, k, rfl, fun _ _ => rfl⟩
theorem copy_win {t t' ty : TypeId} {g : SlInfo} (hsl : SlOk P t g) (hf : g.e.flat = true) (h1 : g.e.size = 1) {xs ys : List g.e.I} (hw : WinRd w S X ⟨g.eid, false, g.e, xs⟩) {u : Value} {S1 : Nat → Prop} (hs : SrcOk w S1 g.e ys u) (n : Nat) :
    ∃ w', (Builtin.copy_ #[t, t'] ty #[X.v, u]).run P w = .ok (.int .i64 ((min ys.length xs.length : Nat) : Int)) w' ∧ Kept n X w w' ∧ WinRd w' S X ⟨g.eid, false, g.e, ys.take xs.length ++ xs.drop ys.length⟩ := by
  obtain ⟨A, cap, news, rfl, k1, k2, k3, k4⟩ := hs
  have hsz : (P.info? g.eid).map (·.size) = some 1 := by
    obtain ⟨i, i1, i2, _⟩ := hsl.ty.info
    rw [i1, Option.map_some, i2, h1]
  have hkept := hw.kept n
  have hw0 := hw
  obtain ⟨cs, c1, c2, c3⟩ := hw
  have none_case : min ys.length xs.length = 0 → ∀ (d : Option Addr) (dc : Nat), X.v = .slice d xs.length dc → ∃ w', (Builtin.copy_ #[t, t'] ty #[X.v, .slice A ys.length cap]).run P w = .ok (.int .i64 ((min ys.length xs.length : Nat) : Int)) w' ∧ Kept n X w w' ∧ WinRd w' S X ⟨g.eid, false, g.e, ys.take xs.length ++ xs.drop ys.length⟩ := by
    intro hm d dc hv
    refine ⟨w, ?_, hkept, ?_⟩
    · rw [hv, run_copy_none w t t' ty g.eid d A xs.length dc ys.length cap hsl.und hsz hm, hm]; rfl
    · have : ys.take xs.length ++ xs.drop ys.length = xs := by
        rcases Nat.eq_zero_or_pos xs.length with h0 | h0
        · rw [List.length_eq_zero_iff] at h0; subst h0; simp
        · have : ys.length = 0 := by omega
          rw [List.length_eq_zero_iff] at this; subst this; simp
      rw [this]; exact hw0
  rcases c3 with ⟨e1, e2⟩ | ⟨b, dc, cur, e1, e2, e3, e4, e5, e6⟩
  · dsimp only at e2
    exact none_case (by omega) none 0 (by rw [e1, e2])
  · dsimp only at c1 c2 e1 e2 e3 e4 e6
    by_cases hm : min ys.length xs.length = 0
    · exact none_case hm _ _ e1
    · obtain ⟨ad, rfl, k5⟩ := k4 (by omega)
      rw [h1, Nat.mul_one] at k1 c1 e3
      have hcur : cur.toList.length = cur.size := Array.length_toList
      have hnl : (news.take xs.length).length = min ys.length xs.length := by rw [List.length_take, k1]; omega
      refine ⟨w.setRow b (cur.toList.take X.k ++ news.take xs.length ++ cur.toList.drop (X.k + (news.take xs.length).length)).toArray, ?_, ?_, ?_⟩
      · rw [e1, run_copy_row P w t t' ty g.eid b X.k xs.length dc ad ys.length cap cur g.eid (news.take xs.length) hsl.und hsz e4 hnl (fun j v hj => ?_) (by omega) (fun v hv => k3 v (List.mem_of_mem_take hv)), hnl]
        · rfl
        · refine k5 j v ?_
          rw [List.getElem?_take] at hj
          split at hj
          · exact hj
          · cases hj
      · refine ⟨rfl, rfl, rfl, by simp, fun k hk hn _ => setRow_other w b k _ (fun e => hn (by rw [e1, e]; rfl)), fun b' hb' => ?_⟩
        rw [e1] at hb'
        cases hb'
        refine ⟨cur, _, g.eid, e4, setRow_heap w b cur _ g.eid _ e4, ?_, fun j hj => ?_⟩
        · simp only [List.size_toArray, List.length_append, List.length_take, List.length_drop]; omega
        · rw [← Array.getElem?_toList, ← Array.getElem?_toList]
          rw [show ((cur.toList.take X.k ++ news.take xs.length ++ cur.toList.drop (X.k + (news.take xs.length).length)).toArray.toList) = splice cur.toList X.k (news.take xs.length) by simp [splice, List.append_assoc]]
          exact splice_out (cs := cur.toList) (k := X.k) (vs := news.take xs.length) (by omega) (by omega)
      · refine ⟨news.take xs.length ++ cs.drop (news.take xs.length).length, ?_, ?_, .inr ⟨b, dc, _, ?_, ?_, ?_, setRow_heap w b cur _ g.eid _ e4, ?_, ?_⟩⟩
        · simp only [List.length_append, List.length_take, List.length_drop, h1, Nat.mul_one]; omega
        · have r1 := take_row k2 xs.length
          have r2 := win_rows c2 ys.length xs.length
          rw [h1, Nat.mul_one] at r1
          rw [h1, Nat.mul_one, Nat.mul_one] at r2
          rw [List.take_of_length_le (by rw [List.length_drop]; omega), List.take_of_length_le (by rw [List.length_drop]; omega)] at r2
          have hd : cs.drop (news.take xs.length).length = cs.drop ys.length := by
            rw [hnl]
            rcases Nat.le_total ys.length xs.length with hh | hh
            · rw [Nat.min_eq_left hh]
            · rw [Nat.min_eq_right hh, List.drop_eq_nil_of_le (by omega), List.drop_eq_nil_of_le (by omega)]
          rw [hd]
          exact rows_append (r1.flat hf) (by simp only [List.length_take, h1, Nat.mul_one]; omega) (r2.flat hf)
        · rw [e1]; simp only [List.length_append, List.length_take, List.length_drop]; congr 1; omega
        · simp only [List.length_append, List.length_take, List.length_drop]; omega
        · simp only [List.length_append, List.length_take, List.length_drop, h1, Nat.mul_one]; omega
        · simp only [List.size_toArray, List.length_append, List.length_take, List.length_drop]; omega
        · have hs := splice_win (cur := cur.toList) (vs := news.take xs.length) (m := X.k) (k := 0) (n := X.n) (by omega) (by omega)
          rw [Nat.add_zero] at hs
          rw [show ((cur.toList.take X.k ++ news.take xs.length ++ cur.toList.drop (X.k + (news.take xs.length).length)).toArray.toList) = splice cur.toList X.k (news.take xs.length) by simp [splice, List.append_assoc], hs, e6]
          simp [splice]
theorem evCopy_ok (hG : CtxOk P G) (h : Inv B X w0 S ν st tmps w) {o : Oper} {t t' : TypeId} {x y : Operand} (ho : o.op = .call { callee := .builtin .copy, args := #[x, y], argTypes := #[t, t'] }) (hr : (evCopy G st o.dst t x y).run = some st') : MemOk P Λ B X w0 o tmps ds w st' := by
  unfold evCopy at hr
  split at hr
  · rename_i g s u hg hs hu
    split at hr
    · rename_i hc
      simp only [Bool.and_eq_true] at hc
      have h1 := nbeq.1 hc.2
      split at hr
      · rename_i l xs fr ys hl hy
        split at hr
        · rename_i st2 hst2
          rw [back_at hl] at hst2
          have hsrc := src_ok h (opd_ok (ds := ds) h hu) hy
          obtain ⟨X', Sc, hXv, _, h2, h3, h4, h5, hback⟩ := lend_ok h (opd_ok (ds := ds) h hs) hl
          obtain ⟨w', c1, c2, c3⟩ := copy_win (t := t) (t' := t') (ty := o.type) (hG.sl _ _ hg) hc.1 h1 h5 hsrc w.heap.size
          have hrun : (execOp (⟨tmps, ds⟩ : Act).eval o).run P w = .ok (.value (.int .i64 ((min ys.length xs.length : Nat) : Int))) w' := by
            simp only [execOp, ho]
            rw [hXv] at c1
            simp [resolve, invoke, builtin, c1]
          have hg : growOp Λ o = true → Ext w w' := fun hg => by simp [growOp, ho] at hg
          have hw : ∀ (rs : List RTy) (vs : List Value), rowBlocks rs vs = [] → WinRd w' (fun b => Sc b ∨ b ∈ rowBlocks rs vs) X' ⟨g.eid, false, g.e, ys.take xs.length ++ xs.drop ys.length⟩ := fun rs vs e => c3.flat hc.1
          split at hr
          · rename_i d hd
            obtain ⟨S', ν', hi⟩ := hback ds w' _ [.v (.int .i64)] ((min ys.length xs.length : Nat) : Int) (.int .i64 ((min ys.length xs.length : Nat) : Int)) [.int .i64 ((min ys.length xs.length : Nat) : Int)] (some d) st2 st' c2 (hw _ _ rfl)
              ⟨rfl, List.nodup_nil, _, rfl, int_val _ _⟩ hst2 (by rw [hd] at hr; exact hr)
            rw [← hd] at hi
            exact memOk_val hrun hi hg
          · rename_i hd
            cases hr
            obtain ⟨S', ν', hi⟩ := hback ds w' _ [] () (.tuple #[]) [] none st' st' c2 (hw _ _ rfl) ⟨rfl, List.nodup_nil, rfl⟩ hst2 rfl
            refine memOk_val hrun (S := S') (ν := ν') ?_ hg
            rw [hd]; exact hi
        · cases hr
      · cases hr
    · cases hr
  · cases hr
theorem evConvS_ok {i : SlInfo} (h : Inv B X w0 S ν st tmps w) {o : Oper} {t t' : TypeId} {x : Operand} (hs : SlOk P t i) (hd : TyOk P t' .str) (ho : o.op = .convert t t' x) (hr : (evConvS i st o.dst x).run = some st') : PureOk P B X w0 S ν o tmps ds w st' := by
  unfold evConvS at hr
  split at hr
  · rename_i s hx
    split at hr
    · rename_i hie
      have hie : i.e = .int .u8 := of_decide_eq_true hie
      split at hr
      · rename_i fr ys hy
        cases hr
        obtain ⟨A0, cap, news, k0, k1, k2, k3, k4⟩ := src_ok h (opd_ok (ds := ds) h hx) hy
        have hund := hs.und
        have hel : P.underlying i.eid = some (.int .u8) := by
          obtain ⟨d, e1, e2⟩ := hs.ty.desc
          rw [hie] at e2
          cases d <;> simp only [dchk] at e2 <;> try contradiction
          simp only [decide_eq_true_eq] at e2
          rw [e1, e2]
        have hst : P.underlying t' = some .string := by
          obtain ⟨d, e1, e2⟩ := hd.desc
          cases d <;> simp only [dchk] at e2 <;> try contradiction
          exact e1
        have hnews : ∀ (j : Nat) (n : Int), ys[j]? = some n → news[j]? = some (.int .u8 n) := fun j n hj => by
          obtain ⟨us, h1, h2⟩ := k2 j n hj
          have h1 : us = [.int .u8 n] := by unfold Rd at h1; exact h1
          subst h1
          have := h2 0 _ rfl
          rw [show j * (Ty.int .u8).size + 0 = j by show j * 1 + 0 = j; omega] at this
          exact this
        refine pure_put h (v := .string (strOfNums ys)) (fun w' hw' => ?_) (str_val _)
        simp only [execOp, ho, k0]
        have main : (convert t t' (.slice A0 ys.length cap)).run P w' = .ok (.string (strOfNums ys)) w' := by
          rw [run_convert_bytes_string w' t t' _ A0 _ cap hund hel hst]
          match A0, k4 with
          | none, k4 =>
            have : ys = [] := by
              cases ys with
              | nil => rfl
              | cons y ys =>
                obtain ⟨ad, e, _⟩ := k4 (by simp)
                cases e
            subst this
            simp [Conv.bytesToString]
            rfl
          | some ad, k4 =>
            have hl : (loadCells ad ys.length).run P w' = .ok (ys.map (Value.int .u8)).toArray w' := by
              have := run_loadCells_list (P := P) (w := w') ad (ys.map (Value.int .u8)) (fun j v hj => by
                rw [List.getElem?_map] at hj
                cases hn : ys[j]? with
                | none => rw [hn] at hj; cases hj
                | some n =>
                  rw [hn] at hj
                  cases hj
                  have hjl : j < ys.length := (List.getElem?_eq_some_iff.1 hn).1
                  obtain ⟨ad', e, k5⟩ := k4 (by omega)
                  cases e
                  have hc := k5 j _ (hnews j n hn)
                  exact (World.cell?_of_block (hw'.2 _ (World.block_lt_of_cell? w _ hc))).trans hc)
              rw [List.length_map] at this
              exact this
            rw [run_bytesToString w' ad ys.length cap ys hl, foldl_push_bytes]
            simp [strOfNums, ByteArray.empty, ByteArray.emptyWithCapacity]
            rfl
        simp [main]
      · cases hr
    · cases hr
  · cases hr
end Go.Proofs.YtnldcpanpojeiaaGreatDoor
