/-
  A string as runes, and runes as a string.
-/
import Derived.Test.YtnldcpanpojeiaaGreatDoorEvCopy
import Derived.Laws.IdiomStrings
import Derived.Test.YtnldcpanpojeiaaGreatDoorEvHole2
namespace Go.Proofs.YtnldcpanpojeiaaGreatDoor
set_option linter.all false
variable {P : Program} {Λ : List Nat} {G : Ctx} {B : Nat} {X : Lnt} {w0 w w' : World} {S S' : Nat → Prop} {ν : Nat → Value} {st st' : St} {tmps : Array Value} {ds : List Deferred}
open Go.RowKit in
theorem evMarks_ok (hG : CtxOk P G) (h : Inv B X w0 S ν st tmps w) {o : Oper} {t t' : TypeId} {x : Operand} (ho : o.op = .convert t t' x) (htt : Nat.beq t t' = true) (hr : (evMarks G st o.dst t t' x).run = some st') : MemOk P Λ B X w0 o tmps ds w st' := by
  unfold evMarks at hr
  split at hr
  · rename_i i d tag hi hd hx
    have hput : ∀ v, (Act.put ⟨tmps, ds⟩ o.dst v).tmps = tmps.setIfInBounds d v := fun v => by rw [hd]; rfl
    split at hr
    · rename_i ob hob
      split at hr
      · rename_i hc
        simp only [Bool.and_eq_true, Bool.not_eq_true', decide_eq_true_eq] at hc
        obtain ⟨⟨⟨_, hie⟩, htk⟩, hne⟩ := hc
        split at hr
        · rename_i xs hxs
          cases hr
          have hsl := hG.sl _ _ hi
          obtain rfl := nbeq.1 htt
          have hund := hsl.und
          have hel : P.underlying i.eid = some (.int .u8) := by
            obtain ⟨d, e1, e2⟩ := hsl.ty.desc
            rw [hie] at e2
            cases d <;> simp only [dchk] at e2 <;> try contradiction
            simp only [decide_eq_true_eq] at e2
            rw [e1, e2]
          obtain ⟨hv, _⟩ := (show Slot1Rd B X w S ν st.objs (.ref tag) _ from opd_ok (ds := ds) h hx)
          obtain ⟨eid, fr, e, zs⟩ := ob
          dsimp only at hne hxs
          have hobj := h.obj tag _ hob
          have hval : RdV w (fun b => S b ∧ (ν tag).ownBlock ≠ some b) (.sl e) zs (ν tag) := hobj.val fun b _ hs => ⟨.inl hs.1, hs.2⟩
          have hval := RdV.cast hxs hval
          obtain ⟨cs, ⟨_, hown⟩, _⟩ := hobj
          rcases hown with ⟨_, hz⟩ | ⟨g, cap, cur, e1, _, hg, _⟩
          · have : zs = [] := List.eq_nil_of_length_eq_zero hz
            rw [this] at hne
            cases hne
          · dsimp only at e1 hg
            have hgb : (ν tag).ownBlock = some g := by rw [e1]; rfl
            have hBg : B ≤ g := (h.nw tag _ g hob hgb).resolve_right fun h => by rw [htk] at h; cases h.1
            have hsh : w.shape? g = some (eid, cur.size) := by unfold World.shape?; rw [hg]
            have hsz : (w.freeze ⟨g, cur.size, none⟩ 1).heap.size = w.heap.size := by
              unfold World.freeze
              rw [if_neg (by decide)]
              simp
            have hoth : ∀ b, b ≠ g → (w.freeze ⟨g, cur.size, none⟩ 1).heap[b]? = w.heap[b]? := fun b hb => by
              unfold World.freeze
              rw [if_neg (by decide)]
              simp only [Array.getElem?_modify]
              rw [if_neg (by omega)]
            have hcell : ∀ ad : Addr, (w.freeze ⟨g, cur.size, none⟩ 1).cell? ad = w.cell? ad := fun ad => by
              unfold World.freeze
              rw [if_neg (by decide)]
              unfold World.cell?
              simp only [Array.getElem?_modify]
              by_cases e : g = ad.block
              · subst e
                rw [if_pos rfl, hg]
                rfl
              · rw [if_neg e]
            have hrun : (execOp (⟨tmps, ds⟩ : Act).eval o).run P w = .ok (.value (ν tag)) (w.freeze ⟨g, cur.size, none⟩ 1) := by
              simp only [execOp, ho, hv, e1]
              simp [convert, run_underlying hund, run_underlying hel, markStringish, hsh]
            have h1 := h.forget tag
            have hno : ∀ k p b, olook k (st.forget tag).objs = some p → (ν k).ownBlock = some b → b ≠ g := fun k p b hp hb e => by
              subst e
              have hp : olook k (odrop tag st.objs) = some p := hp
              by_cases ek : k = tag
              · subst ek; rw [olook_drop] at hp; cases hp
              · rw [olook_drop_ne ek] at hp
                exact ek (h.sep k tag p _ b hp hob hb hgb)
            have hXg : ∀ b, X.v.ownBlock = some b ∨ X.more b ∨ X.av b → b < B := fun b hb => by
              rcases hb with hb | hb | hb
              · exact (h.lx b hb).2
              · exact (h.lm b hb).2.1
              · exact (h.la b hb).2.1
            have hSg : S g := h.own tag _ g hob hgb
            have h2 : Inv B X w0 S ν (st.forget tag) tmps (w.freeze ⟨g, cur.size, none⟩ 1) := h1.shift (M := (· = g)) (by unfold World.freeze; rw [if_neg (by decide)]) (by unfold World.freeze; rw [if_neg (by decide)]) (by unfold World.freeze; rw [if_neg (by decide)]) (by rw [hsz]; exact Nat.le_refl _) (fun b _ hb => hoth b hb) (fun b hb => by rw [hb]; exact hSg)
              (fun k p b hp hb => hno k p b hp hb) (fun b hb e => by have := hXg b (.inl hb); omega) (fun b hb => .inl (by rw [hb]; exact hBg)) (fun b hb => hb) (fun b hb => .inl hb) (fun b hb => by rw [hsz]; exact h.lt b hb)
            have h3 : Inv B X w0 (fun b => S b ∧ (ν tag).ownBlock ≠ some b) ν (st.forget tag) tmps (w.freeze ⟨g, cur.size, none⟩ 1) := h2.narrow (fun b hb => hb.1) (fun k p b hp hb => ⟨h2.own k p b hp hb, fun e => hno k p b hp hb (by rw [hgb] at e; exact (Option.some.inj e).symm)⟩)
              (fun b hb => ⟨by
                rcases hb with hb | hb | hb
                · exact (h.lx b hb).1
                · exact (h.lm b hb).1
                · exact (h.la b hb).1, fun e => by rw [hgb] at e; have := Option.some.inj e; have := hXg b hb; omega⟩)
            have hval' : RdV (w.freeze ⟨g, cur.size, none⟩ 1) (Av (fun b => S b ∧ (ν tag).ownBlock ≠ some b) B false) (.sl (.int .u8)) xs (ν tag) := by
              obtain ⟨us, k1, k2⟩ := hval
              refine ⟨us, ?_, k2⟩
              unfold Rd at k1 ⊢
              obtain ⟨A, c, m1, m2, m3, m4⟩ := k1
              refine ⟨A, c, m1, m2, m3, fun j z hj => ?_⟩
              obtain ⟨ad, n1, n2, n3, vs, n4, n5⟩ := m4 j z hj
              refine ⟨ad, n1, fun hA => n2 ?_, by rw [hsz]; exact n3, vs, ?_, fun q u hq => by rw [hcell]; exact n5 q u hq⟩
              · rcases hA with hA | ⟨hA, _⟩
                · exact hA
                · cases hA
              · unfold Rd at n4 ⊢
                exact n4
            have h4 := h3.set (s := .val false (.sl (.int .u8)) xs) hval' d
            rw [← hput] at h4
            exact memOk_val (v := ν tag) (w' := w.freeze ⟨g, cur.size, none⟩ 1) hrun h4 (fun hg => by
              simp only [growOp, ho, htt, Bool.not_true, Bool.and_false] at hg
              cases hg)
        · cases hr
      · cases hr
    · cases hr
  · cases hr
theorem runesFrom_list (s : ByteArray) : ∀ (b i : Nat) (acc : Array Value), Conv.runesFrom s b i acc = acc ++ ((runesL s b i).map (Value.int .i32)).toArray
  | 0, i, acc => by simp [Conv.runesFrom, runesL]
  | b + 1, i, acc => by
    unfold Conv.runesFrom runesL
    by_cases h : i < s.size
    · rw [if_pos h, if_pos h]
      dsimp only
      rw [runesFrom_list s b]
      simp
    · rw [if_neg h, if_neg h]
      simp
theorem evRunes_ok (hG : CtxOk P G) (h : Inv B X w0 S ν st tmps w) {o : Oper} {t t' : TypeId} {x : Operand} (ho : o.op = .convert t t' x) (hr : (evRunes G st o.dst t t' x).run = some st') : MemOk P Λ B X w0 o tmps ds w st' := by
  unfold evRunes at hr
  split at hr
  · rename_i g d f s hg hd ht hx
    have hput : ∀ v, (Act.put ⟨tmps, ds⟩ o.dst v).tmps = tmps.setIfInBounds d v := fun v => by rw [hd]; rfl
    have hsl := hG.sl _ _ hg
    have hty := hG.ty _ _ ht
    split at hr
    · rename_i hie
      obtain ⟨hie, h46⟩ := of_decide_eq_true hie
      obtain ⟨zs, hz, hr⟩ := run_bnd hr
      cases hr
      obtain ⟨hlim, rfl⟩ := app_some hz
      rw [List.nil_append]
      have es : (⟨tmps, ds⟩ : Act).eval x = .string s := val_str (opd_ok (ds := ds) h hx)
      have hund := hsl.und
      have hel : P.underlying g.eid = some (.int .i32) := by
        obtain ⟨d, e1, e2⟩ := hsl.ty.desc
        rw [hie] at e2
        cases d <;> simp only [dchk] at e2 <;> try contradiction
        simp only [decide_eq_true_eq] at e2
        rw [e1, e2]
      have hst : P.underlying t = some .string := by
        obtain ⟨d, e1, e2⟩ := hty.desc
        cases d <;> simp only [dchk] at e2 <;> try contradiction
        exact e1
      have hsz : (Conv.runesFrom s s.size 0 #[]) = ((runesOf s).map (Value.int .i32)).toArray := by
        rw [runesFrom_list]; simp [runesOf]
      have hmx := hsl.max
      have hlen : (runesOf s).length ≤ g.lim := by simpa using hlim
      have hl46 : (runesOf s).length ≤ 70368744177664 := by omega
      have hcr := run_runes_of_string (P := P) w t t' g.eid s hst hund hel (by rw [hsz]; simpa using hl46)
      rw [hsz] at hcr
      simp only [List.size_toArray, List.length_map] at hcr
      generalize hcap : grownCap w (runesOf s).length 0 g.eid = cap at hcr
      have hge : (runesOf s).length ≤ cap := by rw [← hcap]; exact grownCap_ge _ _ _ _
      have hcm : cap ≤ maxLen := by rw [← hcap]; exact grownCap_le_maxLen _ _ _ _ (by simp only [maxLen] at hmx ⊢; omega)
      generalize hcs : (((runesOf s).map (Value.int .i32)).toArray ++ Array.replicate (cap - (runesOf s).length) (Value.int .i32 0)) = cur at hcr
      have hcur : cur.size = cap * 1 := by rw [← hcs]; simp; omega
      have hgb : w.grownBy (w.drew.alloc (.cells cur g.eid)) none := ⟨rfl, rfl, rfl, by simp, fun k hk _ => heap_alloc_old w.drew _ hk⟩
      have htake : cur.toList.take ((runesOf s).length * 1) = (runesOf s).map (Value.int .i32) := by
        rw [← hcs, Nat.mul_one]
        simp
      have hown : (w.drew.alloc (.cells cur g.eid)).ownsRow 0 g.eid (Ty.int .i32).size (.slice (some ⟨w.heap.size, 0, none⟩) (runesOf s).length cap) (runesOf s).length ((runesOf s).map (Value.int .i32)) := by
        refine ⟨by show _ = _ * 1; simp, .inr ⟨w.heap.size, cap, cur, rfl, Nat.zero_le _, heap_alloc_new w.drew _, hge, hcm, hcur, htake⟩⟩
      have hrow : ∀ S' : Nat → Prop, RowRd (w.drew.alloc (.cells cur g.eid)) S' (.int .i32) (runesOf s) ((runesOf s).map (Value.int .i32)) := fun S' j n hj => by
        refine ⟨[.int .i32 n], by unfold Rd; rfl, fun i u hu => ?_⟩
        cases i with
        | zero =>
          cases hu
          rw [show j * (Ty.int .i32).size + 0 = j by show j * 1 + 0 = j; omega, List.getElem?_map, hj]
          rfl
        | succ i => simp at hu
      have h2 := h.new (tag := d) (o := ⟨g.eid, true, .int .i32, runesOf s⟩) (v' := .slice (some ⟨w.heap.size, 0, none⟩) (runesOf s).length cap) hgb (fun b hb => by cases hb) (fun b hb => .inr (by cases hb; exact Nat.le_refl _)) ⟨_, hown, hrow _⟩
      have h3 := set_ref h2 (tag := d) look_new d
      rw [upd_same, ← hput] at h3
      refine memOk_val ?_ h3 (fun hg => ⟨hgb.size, fun b hb => hgb.block b hb (by simp)⟩)
      simp only [execOp, ho, es]
      simp [hcr]
    · cases hr
  · cases hr
theorem evConvR_ok {i : SlInfo} (h : Inv B X w0 S ν st tmps w) {o : Oper} {t t' : TypeId} {x : Operand} (hs : SlOk P t i) (hd : TyOk P t' .str) (ho : o.op = .convert t t' x) (hr : (evConvR i st o.dst x).run = some st') : PureOk P B X w0 S ν o tmps ds w st' := by
  unfold evConvR at hr
  split at hr
  · rename_i s hx
    split at hr
    · rename_i hie
      have hie : i.e = .int .i32 := of_decide_eq_true hie
      split at hr
      · rename_i fr ys hy
        cases hr
        obtain ⟨A0, cap, news, k0, k1, k2, k3, k4⟩ := src_ok h (opd_ok (ds := ds) h hx) hy
        have hund := hs.und
        have hel : P.underlying i.eid = some (.int .i32) := by
          obtain ⟨d, e1, e2⟩ := hs.ty.desc
          rw [hie] at e2
          cases d <;> simp only [dchk] at e2 <;> try contradiction
          simp only [decide_eq_true_eq] at e2
          rw [e1, e2]
        have hst : P.underlying t' = some .string := by
          obtain ⟨d, e1, e2⟩ := hd.desc
          cases d <;> simp only [dchk] at e2 <;> try contradiction
          exact e1
        have hnews : ∀ (j : Nat) (n : Int), ys[j]? = some n → news[j]? = some (.int .i32 n) := fun j n hj => by
          obtain ⟨us, h1, h2⟩ := k2 j n hj
          have h1 : us = [.int .i32 n] := by unfold Rd at h1; exact h1
          subst h1
          have := h2 0 _ rfl
          rw [show j * (Ty.int .i32).size + 0 = j by show j * 1 + 0 = j; omega] at this
          exact this
        refine pure_put h (v := .string (runesBytes ys)) (fun w' hw' => ?_) (str_val _)
        simp only [execOp, ho, k0]
        have main : (convert t t' (.slice A0 ys.length cap)).run P w' = .ok (.string (runesBytes ys)) w' := by
          rw [run_convert_runes_string w' t t' _ A0 _ cap hund hel hst]
          match A0, k4 with
          | none, k4 =>
            have : ys = [] := by
              cases ys with
              | nil => rfl
              | cons y ys =>
                obtain ⟨ad, e, _⟩ := k4 (by simp)
                cases e
            subst this
            simp [Conv.runesToString]
            rfl
          | some ad, k4 =>
            have hl : (loadCells ad ys.length).run P w' = .ok (ys.map (Value.int .i32)).toArray w' := by
              have := run_loadCells_list (P := P) (w := w') ad (ys.map (Value.int .i32)) (fun j v hj => by
                rw [List.getElem?_map] at hj
                cases hn : ys[j]? with
                | none => rw [hn] at hj; cases hj
                | some n =>
                  rw [hn] at hj
                  cases hj
                  have hjl : j < ys.length := (List.getElem?_eq_some_iff.1 hn).1
                  obtain ⟨ad', e, k5⟩ := k4 (by omega)
                  cases e
                  have hc := k5 j _ (hnews j n hn)
                  exact (World.cell?_of_block (hw'.2 _ (World.block_lt_of_cell? w _ hc))).trans hc)
              rw [List.length_map] at this
              exact this
            exact run_runesToString w' ad ys.length cap ys hl
        simp [main]
      · cases hr
    · cases hr
  · cases hr
end Go.Proofs.YtnldcpanpojeiaaGreatDoor
