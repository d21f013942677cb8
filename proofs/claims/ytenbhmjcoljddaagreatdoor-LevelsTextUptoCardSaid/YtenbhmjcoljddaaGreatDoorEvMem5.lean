import Derived.Test.YtenbhmjcoljddaaGreatDoorEvHole
namespace Go.Proofs.YtenbhmjcoljddaaGreatDoor
open Go.RowKit
variable {P : Program} {Λ : List Nat} {G : Ctx} {A : Ann} {B : Nat} {X : Lnt} {w0 w w' : World} {S S' : Nat → Prop} {ν : Nat → Value} {st st' : St} {tmps : Array Value} {ds : List Deferred}
theorem news_from {S : Nat → Prop} {e : Ty} {ad : Addr} : ∀ {ys : List e.I} {k : Nat}, (∀ (j : Nat) (x : e.I), ys[j]? = some x → ∃ us, Rd w S e x us ∧ ∀ i u, us[i]? = some u → w.cell? (ad.add ((k + j) * e.size + i)) = some u) →
  ∃ news : List Value, news.length = ys.length * e.size ∧ (∀ (j : Nat) (u : Value), news[j]? = some u → w.cell? (ad.add (k * e.size + j)) = some u) ∧ RowRd w S e ys news ∧ ∀ u ∈ news, u.oneCell' = true
 | [], k, _ => ⟨[], by simp, fun j u hu => by simp at hu, fun j x hj => by simp at hj, fun u hu => by simp at hu⟩
 | y :: ys, k, h => by
  obtain ⟨us, h1, h2⟩ := h 0 y rfl
  obtain ⟨news, k1, k2, k3, k4⟩ := news_from (ys := ys) (k := k + 1) (fun j x hj => by
   obtain ⟨vs, m1, m2⟩ := h (j + 1) x hj
   exact ⟨vs, m1, fun i u hu => by rw [show k + 1 + j = k + (j + 1) from by omega]; exact m2 i u hu⟩)
  have hl := h1.len
  have hm : (k + 1) * e.size = k * e.size + e.size := by rw [Nat.add_mul]; omega
  refine ⟨us ++ news, ?_, fun j u hu => ?_, fun j x hj => ?_, fun u hu => ?_⟩
  ·rw [List.length_append, hl, k1, List.length_cons, Nat.add_mul]; omega
  ·rcases Nat.lt_or_ge j us.length with hj | hj
   ·rw [List.getElem?_append_left hj] at hu
    have := h2 j u hu
    rwa [Nat.add_zero] at this
   ·rw [List.getElem?_append_right hj] at hu
    have := k2 _ u hu
    rwa [show (k + 1) * e.size + (j - us.length) = k * e.size + j from by omega] at this
  ·cases j with
   | zero =>
    cases hj
    refine ⟨us, h1, fun i u hu => ?_⟩
    rw [Nat.zero_mul, Nat.zero_add, List.getElem?_append_left]
    ·exact hu
    ·rcases Nat.lt_or_ge i us.length with h' | h'
     ·exact h'
     ·rw [List.getElem?_eq_none h'] at hu; cases hu
   | succ j =>
    obtain ⟨vs, m1, m2⟩ := k3 j x hj
    refine ⟨vs, m1, fun i u hu => ?_⟩
    rw [List.getElem?_append_right (by rw [hl, Nat.add_mul]; omega), hl, show (j + 1) * e.size + i - e.size = j * e.size + i from by rw [Nat.add_mul]; omega]
    exact m2 i u hu
  ·rcases List.mem_append.1 hu with h' | h'
   ·exact h1.one u h'
   ·exact k4 u h'
def SrcOk (w : World) (S : Nat → Prop) (e : Ty) (ys : List e.I) (v : Value) : Prop :=
 ∃ A cap news, v = .slice A ys.length cap ∧ news.length = ys.length * e.size ∧ RowRd w S e ys news ∧ (∀ u ∈ news, u.oneCell' = true) ∧ (0 < ys.length → ∃ ad, A = some ad ∧ ∀ (j : Nat) (u : Value), news[j]? = some u → w.cell? (ad.add j) = some u)
theorem RdV.src {S : Nat → Prop} {e : Ty} {ys : List e.I} {v : Value} (h : RdV w S (.sl e) ys v) : SrcOk w S e ys v := by
 obtain ⟨A, cap, e1, _, _, e2⟩ := val_slice h
 cases ys with
 | nil => exact ⟨A, cap, [], e1, by simp, fun j x hj => by simp at hj, fun u hu => by simp at hu, fun h => by simp at h⟩
 | cons y ys =>
  obtain ⟨ad, rfl, _⟩ := e2 0 y rfl
  obtain ⟨news, k1, k2, k3, k4⟩ := news_from (w := w) (S := S) (e := e) (ad := ad) (ys := y :: ys) (k := 0) (fun j x hj => by
   obtain ⟨ad', h1, _, _, us, h2, h3⟩ := e2 j x hj
   cases h1
   exact ⟨us, h2, fun i u hu => by rw [Nat.zero_add]; exact h3 i u hu⟩)
  exact ⟨some ad, cap, news, e1, k1, k3, k4, fun _ => ⟨ad, rfl, fun j u hu => by have := k2 j u hu; rwa [Nat.zero_mul, Nat.zero_add] at this⟩⟩
theorem SrcOk.flat {S S' : Nat → Prop} {e : Ty} {ys : List e.I} {v : Value} (hf : e.flat = true) (h : SrcOk w S e ys v) : SrcOk w S' e ys v :=
 let ⟨A, cap, news, h1, h2, h3, h4, h5⟩ := h
 ⟨A, cap, news, h1, h2, h3.flat hf, h4, h5⟩
theorem ObjRd.src {v : Value} {o : Obj} (h : ObjRd B w S v o) : SrcOk w (Av S B o.fr) o.e o.xs v := by
 have hsl := obj_slice h
 obtain ⟨cs, hown, hrow⟩ := h
 obtain ⟨A, cap, e1, _⟩ := hsl
 have hval : RdV w (fun _ => False) (.sl o.e) o.xs v := ObjRd.val ⟨cs, hown, hrow⟩ (fun _ _ h => h.elim)
 obtain ⟨A', cap', news, f1, f2, f3, f4, f5⟩ := hval.src
 rcases hown.2 with ⟨g1, g2⟩ | ⟨g, cap2, cur, g1, _, g3, g4, g5, g6, g7⟩
 ·have hx : o.xs = [] := List.eq_nil_of_length_eq_zero g2
  exact ⟨A', cap', news, f1, f2, fun j x hj => by rw [hx] at hj; simp at hj, f4, f5⟩
 ·refine ⟨A', cap', cs, f1, hown.1, hrow, ?_, fun hpos => ?_⟩
  · -- each cell of the row is one
   intro u hu
   obtain ⟨q, hq⟩ := List.getElem?_of_mem hu
   have hql : q < cs.length := by
    rcases Nat.lt_or_ge q cs.length with h' | h'
    ·exact h'
    ·rw [List.getElem?_eq_none h'] at hq; cases hq
   rw [hown.1] at hql
   have hpos : 0 < o.e.size := by
    rcases Nat.eq_zero_or_pos o.e.size with h' | h'
    ·rw [h'] at hql; omega
    ·exact h'
   have hj : q / o.e.size < o.xs.length := Nat.div_lt_of_lt_mul (by rw [Nat.mul_comm]; exact hql)
   obtain ⟨us, k1, k2⟩ := hrow _ _ (List.getElem?_eq_getElem hj)
   have hi : q % o.e.size < us.length := by rw [k1.len]; exact Nat.mod_lt _ hpos
   have hc := k2 _ _ (List.getElem?_eq_getElem hi)
   rw [Nat.mul_comm, Nat.div_add_mod, hq] at hc
   cases hc
   exact k1.one _ (List.getElem_mem hi)
  ·obtain ⟨ad, hA, _⟩ := f5 hpos
   refine ⟨ad, hA, fun j u hu => ?_⟩
   have : ad = ⟨g, 0, none⟩ := by
    rw [f1] at g1
    injection g1 with g1
    rw [hA] at g1
    injection g1
   rw [this]
   exact hown.cells (g := g) (by rw [g1]; rfl) _ _ hu
theorem src_ok (h : Inv B X w0 S ν st tmps w) {s : Slot} {v : Value} (hs : SlotRd B X w S ν st.objs s v) {e : Ty} {fr : Bool} {ys : List e.I} (ha : st.asSrc s e = some (fr, ys)) : SrcOk w (Av S B fr) e ys v := by
 unfold St.asSrc at ha
 split at ha
 ·rename_i g l f e' xs
  split at ha
  ·rename_i hf
   unfold St.asVal at ha
   dsimp only at ha
   split at ha
   ·rename_i y hy
    cases ha
    have hv : Slot1Rd B X w S ν st.objs (.view g l fr e' xs) v := hs
    exact (RdV.cast hy hv.2.1).src.flat hf
   ·cases ha
  ·cases ha
 ·split at ha
  ·rename_i hf
   unfold St.asVal at ha
   dsimp only at ha
   split at ha
   ·rename_i o ho
    split at ha
    ·rename_i y hy
     cases ha
     have hv : Slot1Rd B X w S ν st.objs .lref v := hs
     have hv1 := (h.win o ho).val (S0 := fun b => S b ∧ X.v.ownBlock ≠ some b) (fun b hb => h.lt b (h.lx b hb).1) (fun b hb hs => ⟨.inl hs.1, hs.2⟩)
     have hv : v = X.v := hv
     rw [hv]
     exact (RdV.cast hy hv1).src.flat hf
    ·cases ha
   ·cases ha
  ·cases ha
 ·rename_i l e' xs
  split at ha
  ·rename_i hf
   unfold St.asVal at ha
   dsimp only at ha
   split at ha
   ·rename_i y hy
    cases ha
    have hv : Slot1Rd B X w S ν st.objs (.lview l e' xs) v := hs
    exact (RdV.cast hy hv.1).src.flat hf
   ·cases ha
  ·cases ha
 ·unfold St.asVal at ha
  split at ha
  ·split at ha
   ·rename_i y' hy
    cases ha
    exact (RdV.cast hy hs).src
   ·cases ha
  ·split at ha
   ·rename_i y' hy
    cases cast_self hy
   ·cases ha
  ·have ha' : some (true, ([] : List e.I)) = some (fr, ys) := ha
   cases ha'
   have hv : v = .slice none 0 0 := hs
   rw [hv]
   exact nil_val.src
  ·have ha' : (none : Option (Bool × List e.I)) = some (fr, ys) := ha
   cases ha'
  ·split at ha
   ·rename_i y' hy
    cases ha
    exact (RdV.cast hy (show Slot1Rd B X w S ν st.objs (.nn _ _ _) v from hs).1).src
   ·cases ha
  ·split at ha
   ·rename_i o ho
    split at ha
    ·rename_i y' hy
     cases ha
     obtain ⟨e1, e2⟩ := ref_val h hs ho
     rw [e1]
     obtain ⟨eid, fr', e', xs⟩ := o
     have he := cast_self hy
     cases he
     have := cast_val hy
     cases this
     exact e2.src
    ·cases ha
   ·cases ha
  ·rename_i hv _ _; exact absurd rfl (hv _ _ _ _ _)
  ·rename_i _ hv _; exact absurd rfl hv
  ·rename_i _ _ hv; exact absurd rfl (hv _ _ _)
  ·cases ha
theorem app_some {α : Type} {lim : Nat} {xs ys zs : List α} (h : app lim xs ys = some zs) : xs.length + ys.length ≤ lim ∧ zs = xs ++ ys := by
 unfold app at h
 split at h
 ·rename_i hc; cases h; exact ⟨hc, rfl⟩
 ·cases h
theorem run_append_none {t e ty : TypeId} {i : TypeInfo} (ht : P.underlying t = some (.slice e)) (hi : P.info? e = some i) {base size : Nat} {v : Value} {n : Nat} {xs : List Value} (hown : w.ownsRow base e size v n xs) (c : Nat) :
  (Builtin.append_ #[t, t] ty #[v, .slice none 0 c]).run P w = .ok v w := by
 rcases hown.2 with ⟨rfl, rfl⟩ | ⟨g, cap, cur, rfl, _, _, hnc, _⟩
 ·simp [Builtin.append_, run_underlying ht, sizeOf, typeInfo, hi, Builtin.lenOf, Builtin.firstCells]
 ·simp [Builtin.append_, run_underlying ht, sizeOf, typeInfo, hi, Builtin.lenOf, Builtin.firstCells, hnc, storeCells]
theorem run_append_src {t ty : TypeId} {g : SlInfo} (hsl : SlOk P t g) (hpl : g.e.plain = true) {base : Nat} {v : Value} {n : Nat} {xs : List Value} (hown : w.ownsRow base g.eid g.e.size v n xs) {S : Nat → Prop} {ys : List g.e.I} {u : Value}
  (hsrc : SrcOk w S g.e ys u) (hlim : n + ys.length ≤ g.lim) (hbase : base ≤ w.heap.size) :
  ∃ v' w' news, (Builtin.append_ #[t, t] ty #[v, u]).run P w = .ok v' w' ∧ w'.ownsRow base g.eid g.e.size v' (n + ys.length) (xs ++ news) ∧ w.grownBy w' v.ownBlock ∧ (v'.ownBlock = v.ownBlock ∨ v'.ownBlock = some w.heap.size) ∧
   RowRd w S g.e ys news ∧ news.length = ys.length * g.e.size := by
 obtain ⟨i, z, k1, k2, k3, k4, _⟩ := ty_zero hsl.ty hpl
 obtain ⟨i', m1, m2⟩ := hsl.lim
 rw [k1] at m1
 cases m1
 obtain ⟨A, cap, news, rfl, f1, f2, f3, f4⟩ := hsrc
 have hmx := hsl.max
 have hzs : z.cells.size = g.e.size := by
  have := (zchk_rd (w := w) (S := fun _ => False) k4).len
  simpa using this
 have hby : (n + ys.length) * i.bytes ≤ 140737488355328 := Nat.le_trans (Nat.mul_le_mul_right _ hlim) m2
 cases A with
 | none =>
  have h0 : ys.length = 0 := by
   rcases Nat.eq_zero_or_pos ys.length with h' | h'
   ·exact h'
   ·obtain ⟨ad, h, _⟩ := f4 h'
    cases h
  have hn : news = [] := List.eq_nil_of_length_eq_zero (by rw [f1, h0]; simp)
  subst hn
  rw [h0]
  exact ⟨v, w, [], run_append_none hsl.und k1 hown cap, by simpa using hown, World.grownBy.refl w _, .inl rfl, f2, by simp⟩
 | some ad =>
  have hcells : ∀ (j : Nat) (u : Value), news[j]? = some u → w.cell? (ad.add j) = some u := by
   intro j u hu
   rcases Nat.eq_zero_or_pos ys.length with h0 | h0
   ·have hn : news = [] := List.eq_nil_of_length_eq_zero (by rw [f1, h0]; simp)
    subst hn
    simp at hu
   ·obtain ⟨ad', h, hc⟩ := f4 h0
    cases h
    exact hc j u hu
  obtain ⟨v', w', hrun, h2, h3, _, h5⟩ := run_append_own_at (P := P) w base t ty g.eid i z g.e.size i.bytes hsl.und k1 k3 k2 rfl hzs hsl.ty.pos v n xs hown ad ys.length cap news f1 hcells f3 (by omega) hby hbase
  exact ⟨v', w', news, hrun, h2, h3, h5, f2, f1⟩
theorem rows_append {S : Nat → Prop} {e : Ty} {xs ys : List e.I} {cs news : List Value} (h1 : RowRd w S e xs cs) (hl : cs.length = xs.length * e.size) (h2 : RowRd w S e ys news) : RowRd w S e (xs ++ ys) (cs ++ news) := by
 intro j x hj
 rcases Nat.lt_or_ge j xs.length with h | h
 ·rw [List.getElem?_append_left h] at hj
  obtain ⟨us, k1, k2⟩ := h1 j x hj
  refine ⟨us, k1, fun i u hu => ?_⟩
  have := k2 i u hu
  rw [List.getElem?_append_left]
  ·exact this
  ·rcases Nat.lt_or_ge (j * e.size + i) cs.length with h' | h'
   ·exact h'
   ·rw [List.getElem?_eq_none h'] at this; cases this
 ·rw [List.getElem?_append_right h] at hj
  obtain ⟨us, k1, k2⟩ := h2 _ x hj
  refine ⟨us, k1, fun i u hu => ?_⟩
  have hm : j * e.size = xs.length * e.size + (j - xs.length) * e.size := by rw [← Nat.add_mul]; congr 1; omega
  rw [List.getElem?_append_right (by omega), hl, hm, show xs.length * e.size + (j - xs.length) * e.size + i - xs.length * e.size = (j - xs.length) * e.size + i from by omega]
  exact k2 i u hu
theorem lens1_tup (tag n : Nat) (s : Slot) (ss : List Slot) : s.lens1 tag n ≠ .tup ss := by
 cases s <;> simp only [Slot.lens1] <;> (try split) <;> simp
theorem Inv.lens (h : Inv B X w0 S ν st tmps w) {tag : Nat} {o : Obj} (ho : olook tag st.objs = some o) : Inv B X w0 S ν (st.lens tag o.xs.length) tmps w := by
 refine ⟨h.fr, h.base, by simpa [St.lens] using h.len, fun i s hi => ?_, h.obj, h.own, h.lt, h.win, h.lx2, h.lm, h.nw, h.hole, h.sep⟩
 simp only [St.lens, List.getElem?_map] at hi
 cases hu : st.env[i]? with
 | none => rw [hu] at hi; cases hi
 | some u =>
  rw [hu] at hi
  cases hi
  obtain ⟨x, hx, hrd⟩ := h.slot i u hu
  refine ⟨x, hx, SlotRd.map (f1 := Slot.lens1 tag o.xs.length) (fun _ => rfl) (fun s hs => ?_) (fun s _ ss => lens1_tup tag _ s ss) (fun s v hsv => ?_) hrd⟩
  ·cases s <;> first | rfl | exact absurd rfl (hs _)
  ·cases s with
   | ref g =>
    simp only [Slot.lens1]
    split
    ·rename_i e
     have e := nbeq.1 e
     subst e
     obtain ⟨e1, _⟩ := hsv
     obtain ⟨A, cap, e3, _⟩ := obj_slice (h.obj g o ho)
     exact ⟨A, cap, e1.trans e3⟩
    ·exact hsv
   | _ => exact hsv
theorem evAppend_ok (hG : CtxOk P G) (h : Inv B X w0 S ν st tmps w) {o : Oper} {t : TypeId} {s x : Operand} (ho : o.op = .call { callee := .builtin .append, args := #[s, x], argTypes := #[t, t] }) (hr : (evAppend G st o.dst t s x).run = some st') : MemOk P Λ B X w0 o tmps ds w st' := by
 unfold evAppend at hr
 split at hr
 ·rename_i g d s' x' hg hd hs hx
  have hput : ∀ v, (Act.put ⟨tmps, ds⟩ o.dst v).tmps = tmps.setIfInBounds d v := fun v => by rw [hd]; rfl
  have hsl := hG.sl _ _ hg
  split at hr
  ·cases hr
  ·rename_i hpl
   have hpl : g.e.plain = true := by simpa using hpl
   split at hr
   ·rename_i fr ys hy
    have hsrc := src_ok h (opd_ok (ds := ds) h hx) hy
    -- what is left of the two arms
    have fin : ∀ {st2 : St} (_ : Inv B X w0 S ν st2 tmps w) (_ : st2.objs = st.objs) {tag : Nat} {o1 : Obj} {cs news : List Value} {fr1 : Bool} {xs : List g.e.I} {v' : Value} {w' : World} {r : Option Nat},
      (execOp (⟨tmps, ds⟩ : Act).eval o).run P w = .ok (.value v') w' → w'.ownsRow 0 g.eid g.e.size v' (xs ++ ys).length (cs ++ news) → w.grownBy w' r →
      (∀ b, r = some b → (ν tag).ownBlock = some b ∧ ∃ o, olook tag st.objs = some o) → (v'.ownBlock = r ∨ v'.ownBlock = some w.heap.size) → (growOp Λ o = true → r = none) →
      RowRd w (Av S B fr1) g.e xs cs → cs.length = xs.length * g.e.size → RowRd w (Av S B fr) g.e ys news →
      o1 = ⟨g.eid, fr1 && (fr || g.e.flat), g.e, xs ++ ys⟩ → MemOk P Λ B X w0 o tmps ds w ((st2.new tag o1).set d (.ref tag)) := by
     intro st2 hst2 hob tag o1 cs news fr1 xs v' w' r hrun hown hgb hr1 hv hgr hrow hcl hnews e1
     subst e1
     have hmono : ∀ (f f' : Bool), (f = true → f' = true) → ∀ b, Av S B f b → Av S B f' b := fun f f' hff b hb => hb.imp id (fun hb => ⟨hff hb.1, hb.2⟩)
     have r1 : RowRd w (Av S B (fr1 && (fr || g.e.flat))) g.e xs cs := hrow.keep (Nat.le_refl _) (fun b _ => hmono _ _ (by intro h; simp only [Bool.and_eq_true] at h; exact h.1) b) (fun _ _ _ => rfl)
     have r2 : RowRd w (Av S B (fr1 && (fr || g.e.flat))) g.e ys news := by
      cases hf : g.e.flat with
      | true => exact hnews.flat hf
      | false => exact hnews.keep (Nat.le_refl _) (fun b _ => hmono _ _ (by intro h; simp at h; exact h.2) b) (fun _ _ _ => rfl)
     have r3 := rows_append r1 hcl r2
     have hvb : ∀ b, v'.ownBlock = some b → r = some b ∨ w.heap.size ≤ b := by
      intro b hb
      rcases hv with e | e
      ·exact .inl (by rw [← e]; exact hb)
      ·rw [e] at hb; cases hb; exact .inr (Nat.le_refl _)
     have hkeep : RowRd w' (Av (fun b => S b ∨ v'.ownBlock = some b) B (fr1 && (fr || g.e.flat))) g.e (xs ++ ys) (cs ++ news) := by
      refine r3.keep hgb.size (fun b hb hs => ?_) (fun b hb hs => ?_)
      ·rcases hs with (hs | hs) | hs
       ·exact .inl hs
       ·rcases hvb b hs with e | e
        ·obtain ⟨m1, o2, m2⟩ := hr1 b e
         exact .inl (h.own tag o2 b m2 m1)
        ·omega
       ·exact .inr hs
      ·refine hgb.block b hb fun e => hs ?_
       obtain ⟨m1, o2, m2⟩ := hr1 b e.symm
       exact .inl (h.own tag o2 b m2 m1)
     have h2 := hst2.new (tag := tag) (o := ⟨g.eid, fr1 && (fr || g.e.flat), g.e, xs ++ ys⟩) (v' := v') hgb (by rw [hob]; exact hr1) hvb ⟨_, hown, hkeep⟩
     have h3 := set_ref h2 (tag := tag) look_new d
     rw [upd_same, ← hput] at h3
     exact memOk_val hrun h3 (fun hg => ⟨hgb.size, fun b hb => hgb.block b hb (by rw [hgr hg]; simp)⟩)
    split at hr
    ·obtain ⟨zs, hz, hr⟩ := run_bnd hr
     cases hr
     obtain ⟨hlim, rfl⟩ := app_some hz
     have es : (⟨tmps, ds⟩ : Act).eval s = .slice none 0 0 := opd_ok (ds := ds) h hs
     obtain ⟨v', w', news, c1, c2, c3, c4, c5, c6⟩ := run_append_src (ty := o.type) hsl hpl (base := 0) (v := .slice none 0 0) (n := 0) (xs := []) (World.ownsRow_nil w 0 g.eid g.e.size) hsrc (by simpa using hlim) (Nat.zero_le _)
     refine fin h rfl (cs := []) (news := news) (fr1 := true) (xs := []) (v' := v') (w' := w') (r := none) ?_ (by simpa using c2) c3 (fun b hb => by cases hb) c4 (fun _ => rfl) (fun j x hj => by simp at hj) (by simp) c5 (by simp)
     simp only [execOp, ho]
     simp [resolve, invoke, builtin, es, c1]
    ·rename_i tag
     split at hr
     ·rename_i o1 ho1
      split at hr
      ·rename_i hc
       simp only [Bool.and_eq_true] at hc
       have he := nbeq.1 hc.2
       split at hr
       ·rename_i xs hxs
        obtain ⟨zs, hz, hr⟩ := run_bnd hr
        cases hr
        obtain ⟨hlim, rfl⟩ := app_some hz
        obtain ⟨e1, e2⟩ := ref_val h (opd_ok (ds := ds) h hs) ho1
        obtain ⟨eid, fr1, e', xs'⟩ := o1
        have he' := cast_self hxs
        cases he'
        have := cast_val hxs
        cases this
        dsimp only at he
        subst he
        obtain ⟨cs, hown, hrow⟩ := e2
        obtain ⟨v', w', news, c1, c2, c3, c4, c5, c6⟩ := run_append_src (ty := o.type) hsl hpl hown hsrc hlim (Nat.zero_le _)
        refine fin (h.lens ho1) rfl (tag := tag) (cs := cs) (news := news) (fr1 := fr1) (xs := xs') (v' := v') (w' := w') (r := (ν tag).ownBlock) ?_ (by simpa using c2) c3 (fun b hb => ⟨hb, _, ho1⟩) c4 (fun hg => by
         have hs' : isNilC s = true := by simpa [growOp, ho] using hg
         unfold isNilC at hs'
         split at hs'
         ·cases hs
         ·cases hs') hrow hown.1 c5 rfl
        simp only [execOp, ho]
        simp [resolve, invoke, builtin, e1, c1]
       ·cases hr
      ·cases hr
     ·cases hr
    ·cases hr
   ·cases hr
 ·cases hr
end Go.Proofs.YtenbhmjcoljddaaGreatDoor
