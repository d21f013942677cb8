/-
  Stores, new rows, appends.
-/
import Derived.Test.YtnldcpanpojeiaaGreatDoorEvMem
namespace Go.Proofs.YtnldcpanpojeiaaGreatDoor
open Go.RowKit
variable {P : Program} {Λ : List Nat} {G : Ctx} {A : Ann} {B : Nat} {X : Lnt} {w0 w w' : World} {S S' : Nat → Prop} {ν : Nat → Value} {st st' : St} {tmps : Array Value} {ds : List Deferred}
theorem RowRd.alloc {fr : Bool} {e : Ty} {xs : List e.I} {cs : List Value} (h : RowRd w (Av S B fr) e xs cs) (o : Go.Obj) : RowRd (w.alloc o) (Av (fun b => S b ∨ b = w.heap.size) B fr) e xs cs :=
  h.keep (by simp) (fun b hb hs => by
    rcases hs with (hs | hs) | hs
    · exact .inl hs
    · omega
    · exact .inr hs) (fun b hb _ => Below.heap_alloc w o b hb)
theorem Inv.row (h : Inv B X w0 S ν st tmps w) (tag : Nat) {eid : TypeId} {fr : Bool} {e : Ty} {xs : List e.I} {cs : Array Value} {cap : Nat} (hr : RowRd w (Av S B fr) e xs cs.toList) (hc : cs.size = cap * e.size) (hx : xs.length ≤ cap) (hm : cap ≤ maxLen) :
    Inv B X w0 (fun b => S b ∨ (Value.slice (some ⟨w.heap.size, 0, none⟩) xs.length cap).ownBlock = some b) (upd ν tag (.slice (some ⟨w.heap.size, 0, none⟩) xs.length cap)) (st.new tag ⟨eid, fr, e, xs⟩) tmps (w.alloc (.cells cs eid)) := by
  have hsz : B ≤ w.heap.size := Nat.le_trans h.base.1 h.fr.size
  refine h.new (r := none) (World.grownBy_alloc w _ none) (fun b hb => by cases hb) (fun b hb => ?_) ?_
  · right
    simp only [Value.ownBlock, Option.some.injEq] at hb
    omega
  · refine ⟨cs.toList.take (xs.length * e.size), ⟨?_, .inr ⟨w.heap.size, cap, cs, rfl, Nat.zero_le _, heap_alloc_new w _, hx, hm, hc, rfl⟩⟩, ?_⟩
    · have : xs.length * e.size ≤ cap * e.size := Nat.mul_le_mul_right _ hx
      have hcl : cs.toList.length = cap * e.size := by simpa using hc
      rw [List.length_take, hcl]
      exact Nat.min_eq_left this
    · have hrow := hr.alloc (.cells cs eid)
      intro j x hj
      obtain ⟨us, k1, k2⟩ := hrow j x hj
      refine ⟨us, k1.keep (Nat.le_refl _) (fun b hb hs => ?_) (fun _ _ _ => rfl), fun i u hu => ?_⟩
      · rcases hs with (hs | hs) | hs
        · exact .inl (.inl hs)
        · simp only [Value.ownBlock, Option.some.injEq] at hs
          exact .inl (.inr hs.symm)
        · exact .inr hs
      · have hjl : j < xs.length := by
          rcases Nat.lt_or_ge j xs.length with h' | h'
          · exact h'
          · rw [List.getElem?_eq_none h'] at hj; cases hj
        have hil : i < e.size := by
          rcases Nat.lt_or_ge i us.length with h' | h'
          · rw [k1.len] at h'; exact h'
          · rw [List.getElem?_eq_none h'] at hu; cases hu
        have : (j + 1) * e.size ≤ xs.length * e.size := Nat.mul_le_mul_right _ hjl
        rw [Nat.add_mul] at this
        have hlt : j * e.size + i < xs.length * e.size := by omega
        rw [List.getElem?_take, if_pos hlt]
        exact k2 i u hu
theorem memOk_val {o : Oper} {v : Value} (hrun : (execOp (⟨tmps, ds⟩ : Act).eval o).run P w = .ok (.value v) w') (h : Inv B X w0 S ν st' (Act.put ⟨tmps, ds⟩ o.dst v).tmps w') (hg : growOp Λ o = true → Ext w w') : MemOk P Λ B X w0 o tmps ds w st' :=
  ⟨v, w', S, ν, .inl hrun, h, hg⟩
theorem memOk_skip {o : Oper} (hrun : (execOp (⟨tmps, ds⟩ : Act).eval o).run P w = .ok .skip w') (h : Inv B X w0 S ν st' (Act.put ⟨tmps, ds⟩ o.dst undef).tmps w') (hg : growOp Λ o = true → Ext w w') : MemOk P Λ B X w0 o tmps ds w st' :=
  ⟨undef, w', S, ν, .inr ⟨hrun, rfl⟩, h, hg⟩
theorem set_ref (h : Inv B X w0 S ν st tmps w) {tag : Nat} {o : Obj} (ho : olook tag st.objs = some o) (d : Nat) : Inv B X w0 S ν (st.set d (.ref tag)) (tmps.setIfInBounds d (ν tag)) w :=
  h.set (s := .ref tag) (v := ν tag) ⟨rfl, o, ho⟩ d
theorem look_new {tag : Nat} {o : Obj} : olook tag (st.new tag o).objs = some o := by
  show olook tag ((tag, o) :: odrop tag st.objs) = some o
  rw [olook_cons, if_pos rfl]
theorem row_mem (h : Inv B X w0 S ν st tmps w) {o : Oper} {d : Nat} (hd : o.dst = some d) {eid : TypeId} {fr : Bool} {e : Ty} {xs : List e.I} {cs : Array Value} {cap : Nat} (hr : RowRd w (Av S B fr) e xs cs.toList) (hc : cs.size = cap * e.size) (hx : xs.length ≤ cap) (hm : cap ≤ maxLen)
    (hrun : (execOp (⟨tmps, ds⟩ : Act).eval o).run P w = .ok (.value (.slice (some ⟨w.heap.size, 0, none⟩) xs.length cap)) (w.alloc (.cells cs eid))) : MemOk P Λ B X w0 o tmps ds w ((st.new d ⟨eid, fr, e, xs⟩).set d (.ref d)) := by
  have h2 := set_ref (h.row d (eid := eid) hr hc hx hm) (tag := d) look_new d
  rw [upd_same] at h2
  have e : ∀ v, (Act.put ⟨tmps, ds⟩ o.dst v).tmps = tmps.setIfInBounds d v := fun v => by rw [hd]; rfl
  rw [← e] at h2
  exact memOk_val hrun h2 (fun _ => Ext.alloc _ _)
theorem box_mem (h : Inv B X w0 S ν st tmps w) {o : Oper} {d : Nat} (hd : o.dst = some d) {eid : TypeId} {fr : Bool} {e : Ty} {x : e.I} {v : Value} (hv : RdV w (Av S B fr) e x v)
    (hrun : (execOp (⟨tmps, ds⟩ : Act).eval o).run P w = .ok (.value (.pointer (some ⟨w.heap.size, 0, none⟩))) (w.alloc (.cells v.cells eid))) : MemOk P Λ B X w0 o tmps ds w ((st.new d ⟨eid, fr, e, [x]⟩).set d (.eptr d 0 [] e (some x))) := by
  have hc := hv.cells
  have hrow : RowRd w (Av S B fr) e [x] v.cells.toList := by
    intro j y hj
    match j, hj with
    | 0, hj => cases hj; exact ⟨_, hc, fun i u hu => by simpa using hu⟩
    | j + 1, hj => cases hj
  have h1 := h.row d (eid := eid) (cap := 1) hrow (by have := hc.len; simpa using this) (Nat.le_refl _) (by simp [maxLen])
  have h2 := h1.set (s := .eptr d 0 [] e (some x)) (v := .pointer (some ⟨w.heap.size, 0, none⟩))
    (by refine ⟨_, w.heap.size, _, 1, x, look_new, upd_same, Int.le_refl _, by rw [offAt_nil]; simp, rfl, tyAt_nil _, fun y hy => by cases hy; exact getAt_nil _ _⟩) d
  have e : ∀ v, (Act.put ⟨tmps, ds⟩ o.dst v).tmps = tmps.setIfInBounds d v := fun v => by rw [hd]; rfl
  rw [← e] at h2
  exact memOk_val hrun h2 (fun _ => Ext.alloc _ _)
theorem run_storeVar {t : TypeId} {τ : Ty} (h : TyOk P t τ) {v : Value} (hl : v.cells.toList.length = τ.size) (h1 : ∀ u ∈ v.cells.toList, u.oneCell' = true) {g k : Nat} {cur : Array Value} {eid : TypeId} (hg : w.heap[g]? = some (.cells cur eid (0, 0))) (hk : k + τ.size ≤ cur.size) :
    (storeVar t ⟨g, k, none⟩ v).run P w = .ok () (w.setRow g (splice cur.toList k v.cells.toList).toArray) := by
  obtain ⟨i, hi, hsz, _⟩ := h.info
  have hst := run_storeCells_at (P := P) g k eid v.cells.toList 0 cur w hg (by omega) h1
  unfold storeVar
  have hs : v.cells.size = i.size := by rw [hsz, ← hl, Array.length_toList]
  simp only [Sem.run_bind, sizeOf, typeInfo]
  simp [hi, hs, hst, splice]
theorem Inv.store (h : Inv B X w0 S ν st tmps w) {tag : Nat} {o : Obj} (ho : olook tag st.objs = some o) {b n cap : Nat} (hν : ν tag = .slice (some ⟨b, 0, none⟩) n cap) {i : Nat} {el el' : o.e.I} (hi : o.xs[i]? = some el) {path : List Step} {u : Ty} {y : u.I} {fr : Bool} {v : Value}
    (hs : setAt o.e path el u y = some el') (hv : RdV w (Av S B fr) u y v) :
    ∃ cur : Array Value, w.heap[b]? = some (.cells cur o.eid (0, 0)) ∧ i * o.e.size + offAt o.e path + u.size ≤ cur.size ∧
      Inv B X w0 S ν (st.turn tag ⟨o.eid, o.fr && (fr || u.flat), o.e, o.xs.set i el'⟩) tmps (w.setRow b (splice cur.toList (i * o.e.size + offAt o.e path) v.cells.toList).toArray) := by
  obtain ⟨cs, hown, hrow⟩ := h.obj tag o ho
  rw [hν] at hown
  obtain ⟨hcl, hor⟩ := hown
  rcases hor with ⟨e, _⟩ | ⟨g, cap', cur, e, hbg, hblk, hnc, hcm, hcs, htake⟩
  · cases e
  · injection e with e1 e2 e3
    injection e1 with e1
    injection e1 with e1
    subst e1
    subst e3
    have hil : i < o.xs.length := by
      rcases Nat.lt_or_ge i o.xs.length with h' | h'
      · exact h'
      · rw [List.getElem?_eq_none h'] at hi; cases hi
    have hy := (rd_fr hv).cells
    have hus := hy.len
    have htyp : tyAt o.e path = some u := by
      obtain ⟨us, k1, _⟩ := hrow i el hi
      exact (setAt_rd (S := fun _ => False) (k1.keep (Nat.le_refl _) (fun _ _ h => h.elim) (fun _ _ _ => rfl)) hs (hy.keep (Nat.le_refl _) (fun _ _ h => h.elim) (fun _ _ _ => rfl))).1
    have hle := off_le htyp
    have hm1 : (i + 1) * o.e.size ≤ o.xs.length * o.e.size := Nat.mul_le_mul_right _ hil
    have hm2 : o.xs.length * o.e.size ≤ cap * o.e.size := Nat.mul_le_mul_right _ hnc
    rw [Nat.add_mul] at hm1
    have hin : i * o.e.size + offAt o.e path + u.size ≤ o.xs.length * o.e.size := by omega
    refine ⟨cur, hblk, by omega, ?_⟩
    generalize hk : i * o.e.size + offAt o.e path = k at hin ⊢
    have hnew := setRow_heap w b cur (splice cur.toList k v.cells.toList).toArray o.eid (0, 0) hblk
    have hgb : w.grownBy (w.setRow b (splice cur.toList k v.cells.toList).toArray) (some b) :=
      ⟨rfl, rfl, rfl, by simp, fun j _ hne => setRow_other w b j _ (fun e => hne (by rw [e]))⟩
    have hcur : cur.toList.length = cap * o.e.size := by rw [Array.length_toList]; exact hcs
    refine h.turn (o' := ⟨o.eid, o.fr && (fr || u.flat), o.e, o.xs.set i el'⟩) ho rfl (by simp) hgb (fun b' hb' => by cases hb'; rw [hν]; rfl) ?_
    rw [hν]
    refine ⟨splice cs k v.cells.toList, ⟨?_, .inr ⟨b, cap, _, by simp [e2], hbg, hnew, by simpa using hnc, hcm, ?_, ?_⟩⟩, ?_⟩
    · rw [splice_len (by rw [hcl]; omega), hcl]; simp
    · rw [List.size_toArray, splice_len (by omega)]; exact hcur
    · show List.take ((o.xs.set i el').length * o.e.size) (splice cur.toList k v.cells.toList) = splice cs k v.cells.toList
      rw [List.length_set, ← htake]
      have e : splice cur.toList k v.cells.toList = splice (cur.toList.take (o.xs.length * o.e.size)) k v.cells.toList ++ cur.toList.drop (o.xs.length * o.e.size) := by
        rw [← splice_left (by rw [List.length_take]; omega), List.take_append_drop]
      rw [e, List.take_append_of_le_length (by rw [splice_len (by rw [List.length_take]; omega), List.length_take]; omega), List.take_of_length_le (by rw [splice_len (by rw [List.length_take]; omega), List.length_take]; omega)]
    · have hS : ∀ c, S c → c ≠ b → True := fun _ _ _ => trivial
      have hSb : S b := h.own tag o b ho (by rw [hν]; rfl)
      have hrow' : RowRd w (Av S B (o.fr && (fr || u.flat))) o.e (o.xs.set i el') (splice cs k v.cells.toList) := by
        rw [← hk]
        refine row_set (S := Av S B (o.fr && (fr || u.flat))) (hrow.keep (Nat.le_refl _) (fun c _ hc => ?_) (fun _ _ _ => rfl)) hcl hi hs ?_
        · rcases hc with hc | ⟨hc, hc'⟩
          · exact .inl hc
          · simp only [Bool.and_eq_true] at hc
            exact .inr ⟨hc.1, hc'⟩
        · refine hy.keep (Nat.le_refl _) (fun c _ hc => ?_) (fun _ _ _ => rfl)
          rcases hc with hc | ⟨hc, hc'⟩
          · exact .inl hc
          · simp only [Bool.and_eq_true] at hc
            exact .inr ⟨hc.2, hc'⟩
      exact hrow'.keep (by simp) (fun _ _ h => h) (fun c hc hn => setRow_other w b c _ (fun e => hn (.inl (by rw [e]; exact hSb))))
theorem splice_win {cur vs : List Value} {m k n : Nat} (h : k + vs.length ≤ n) (hn : m + n ≤ cur.length) : ((splice cur (m + k) vs).drop m).take n = splice ((cur.drop m).take n) k vs := by
  apply List.ext_getElem?
  intro j
  have hl : ((cur.drop m).take n).length = n := by rw [List.length_take, List.length_drop]; omega
  by_cases hj : j < n
  · rw [List.getElem?_take, if_pos hj, List.getElem?_drop]
    by_cases h1 : j < k ∨ k + vs.length ≤ j
    · rw [splice_out (by omega) (by omega), splice_out (by omega) h1, List.getElem?_take, if_pos hj, List.getElem?_drop]
    · obtain ⟨t, rfl⟩ : ∃ t, j = k + t := ⟨j - k, by omega⟩
      rw [← Nat.add_assoc, splice_in (by omega) (by omega), splice_in (by omega) (by omega)]
  · rw [List.getElem?_eq_none (by rw [List.length_take]; omega), List.getElem?_eq_none (by rw [splice_len (by omega)]; omega)]
theorem Inv.storeL (h : Inv B X w0 S ν st tmps w) {o : Obj} (ho : st.lent = some o) {b n cap : Nat} (hν : X.v = .slice (some ⟨b, X.k, none⟩) n cap) {i : Nat} {el el' : o.e.I} (hi : o.xs[i]? = some el) {path : List Step} {u : Ty} {y : u.I} {fr : Bool} {v : Value}
    (hs : setAt o.e path el u y = some el') (hv : RdV w (Av S B fr) u y v) :
    ∃ cur : Array Value, w.heap[b]? = some (.cells cur o.eid (0, 0)) ∧ X.k + (i * o.e.size + offAt o.e path) + u.size ≤ cur.size ∧
      Inv B X w0 S ν (st.turnL ⟨o.eid, false, o.e, o.xs.set i el'⟩) tmps (w.setRow b (splice cur.toList (X.k + (i * o.e.size + offAt o.e path)) v.cells.toList).toArray) := by
  have hAv : ∀ c, Av S B false c → Av S B fr c := fun c hc => hc.imp id fun h => by cases h.1
  obtain ⟨cs, hcl, hrow, hor⟩ := h.win o ho
  rcases hor with ⟨e, _⟩ | ⟨g, cap', cur, e, hnc, hXn, hblk, hsz, hcs⟩
  · rw [e] at hν; cases hν
  · rw [hν] at e
    injection e with e1 e2 e3
    injection e1 with e1
    injection e1 with e1
    subst e1
    subst e3
    have hil : i < o.xs.length := by
      rcases Nat.lt_or_ge i o.xs.length with h' | h'
      · exact h'
      · rw [List.getElem?_eq_none h'] at hi; cases hi
    have hy : Rd w (Av S B false) u y v.cells.toList := hv.cells.keep (Nat.le_refl _) (fun c _ hc => hAv c hc) (fun _ _ _ => rfl)
    have hus := hy.len
    have htyp : tyAt o.e path = some u := by
      obtain ⟨us, k1, _⟩ := hrow i el hi
      exact (setAt_rd (S := fun _ => False) (k1.keep (Nat.le_refl _) (fun _ _ h => h.elim) (fun _ _ _ => rfl)) hs (hy.keep (Nat.le_refl _) (fun _ _ h => h.elim) (fun _ _ _ => rfl))).1
    have hle := off_le htyp
    have hm1 : (i + 1) * o.e.size ≤ o.xs.length * o.e.size := Nat.mul_le_mul_right _ hil
    rw [Nat.add_mul] at hm1
    have hin : i * o.e.size + offAt o.e path + u.size ≤ X.n := by omega
    refine ⟨cur, hblk, by omega, ?_⟩
    have hcur : cur.toList.length = cur.size := Array.length_toList
    have hnew := setRow_heap w b cur (splice cur.toList (X.k + (i * o.e.size + offAt o.e path)) v.cells.toList).toArray o.eid (0, 0) hblk
    have hgb : w.grownBy (w.setRow b (splice cur.toList (X.k + (i * o.e.size + offAt o.e path)) v.cells.toList).toArray) (some b) :=
      ⟨rfl, rfl, rfl, by simp, fun j _ hne => setRow_other w b j _ (fun e => hne (by rw [e]))⟩
    have hXb : X.v.ownBlock = some b := by rw [hν]; rfl
    have hlen : (splice cur.toList (X.k + (i * o.e.size + offAt o.e path)) v.cells.toList).length = cur.size := by rw [splice_len (by omega)]; exact hcur
    refine h.turnL (o' := ⟨o.eid, false, o.e, o.xs.set i el'⟩) hXb hgb ?_ ?_
    · refine ⟨rfl, rfl, rfl, by simp, fun c hc hn _ => setRow_other w b c _ (fun e => hn (by rw [hXb, e])), fun q hq => ?_⟩
      rw [hXb] at hq
      cases hq
      refine ⟨cur, _, o.eid, hblk, hnew, by rw [List.size_toArray]; exact hlen, fun j hj => ?_⟩
      rw [List.getElem?_toArray, splice_out (by omega) (by omega), Array.getElem?_toList]
    · refine ⟨splice cs (i * o.e.size + offAt o.e path) v.cells.toList, ?_, ?_, .inr ⟨b, cap, _, by rw [hν, e2]; simp, by simpa using hnc, by simpa using hXn, hnew, by rw [List.size_toArray, hlen]; exact hsz, ?_⟩⟩
      · rw [splice_len (by rw [hcl]; omega), hcl]; simp
      · have hrow' := row_set hrow hcl hi hs hy
        exact hrow'.keep (by simp) (fun _ _ h => h) (fun c hc hn => setRow_other w b c _ (fun e => hn (.inl (by rw [e]; exact (h.lx b hXb).1))))
      · show List.take X.n (List.drop X.k (splice cur.toList (X.k + (i * o.e.size + offAt o.e path)) v.cells.toList)) = _
        rw [splice_win (by omega) (by omega), hcs]
theorem Inv.notX (h : Inv B X w0 S ν st tmps w) {g : Nat} {o : Obj} {b : Nat} (ho : olook g st.objs = some o) (hb : (ν g).ownBlock = some b) : X.v.ownBlock ≠ some b := fun hx => by
  rcases h.nw g o b ho hb with h3 | ⟨_, h3⟩
  · have := (h.lx b hx).2
    omega
  · exact (h.lm b h3).2.2 hx
theorem cell_setRow {b k : Nat} {cur : Array Value} {eid : TypeId} {vs : List Value} (hblk : w.heap[b]? = some (.cells cur eid (0, 0))) (hle : k + vs.length ≤ cur.size) {j : Nat} (hj : j < k ∨ k + vs.length ≤ j) :
    (w.setRow b (splice cur.toList k vs).toArray).cell? ⟨b, j, none⟩ = w.cell? ⟨b, j, none⟩ := by
  have hnew := setRow_heap w b cur (splice cur.toList k vs).toArray eid (0, 0) hblk
  have : (splice cur.toList k vs).toArray[j]? = cur[j]? := by
    rw [List.getElem?_toArray, splice_out (by simpa using hle) hj, Array.getElem?_toList]
  simp only [World.cell?, hnew, hblk, this]
theorem hole_store (h : Inv B X w0 S ν st tmps w) {bo : Option Nat} {b k0 lo : Nat} (hbx : BoxAt X ν st.objs bo b k0) {cur : Array Value} {eid : TypeId} {vs : List Value} (hblk : w.heap[b]? = some (.cells cur eid (0, 0))) (hle : k0 + lo + vs.length ≤ cur.size)
    {objs' : List (Nat × Obj)} (hob : ∀ g p, olook g st.objs = some p → ∃ p', olook g objs' = some p') {q : Hole} (hq : q ∈ keepH bo lo vs.length st.holes) :
    HoleRd X (w.setRow b (splice cur.toList (k0 + lo) vs).toArray) ν objs' q := by
  obtain ⟨hq, hd⟩ := mem_keepH hq
  obtain ⟨b', k', p1, p2, p, p3⟩ := h.hole q hq
  refine ⟨b', k', ?_, ?_, hob _ p p3⟩
  · cases hbo : q.box with
    | none => rw [hbo] at p1; exact p1
    | some g =>
      rw [hbo] at p1
      obtain ⟨⟨o, ho⟩, hr⟩ := p1
      exact ⟨hob g o ho, hr⟩
  · by_cases e : b' = b
    · subst e
      have hsame : q.box = bo ∧ k' = k0 := by
        cases hbo : q.box with
        | none =>
          rw [hbo] at p1
          cases bo with
          | none => exact ⟨rfl, p1.2.trans hbx.2.symm⟩
          | some g =>
            obtain ⟨⟨o, ho⟩, hg⟩ := hbx.some_blk
            exact absurd p1.none_blk (h.notX ho hg)
        | some g =>
          rw [hbo] at p1
          obtain ⟨⟨o, ho⟩, hg⟩ := p1.some_blk
          cases bo with
          | none => exact absurd hbx.none_blk (h.notX ho hg)
          | some g' =>
            obtain ⟨⟨o', ho'⟩, hg'⟩ := hbx.some_blk
            have := h.sep g g' o o' b' ho ho' hg hg'
            subst this
            exact ⟨rfl, p1.2.2.trans hbx.2.2.symm⟩
      obtain ⟨e1, e2⟩ := hsame
      subst e2
      rw [cell_setRow hblk hle (by rcases hd with hd | hd | hd; exact absurd e1 hd; omega; omega)]
      exact p2
    · rw [← p2]
      exact World.cell?_of_block (setRow_other w b b' _ e)
theorem hexs {tag : Nat} {o' : Obj} (g : Nat) (p : Obj) (hp : olook g st.objs = some p) : ∃ p', olook g ((tag, o') :: odrop tag st.objs) = some p' := by
  by_cases e : g = tag
  · subst e; exact ⟨o', look_new'⟩
  · exact ⟨p, by rw [olook_cons, if_neg (fun e' => e e'.symm), olook_drop_ne e]; exact hp⟩
theorem Inv.storeK (h : Inv B X w0 S ν st tmps w) {tag : Nat} {o : Obj} (ho : olook tag st.objs = some o) {b n cap : Nat} (hν : ν tag = .slice (some ⟨b, 0, none⟩) n cap) {i : Nat} {el el' : o.e.I} (hi : o.xs[i]? = some el) {path : List Step} {u : Ty} {y : u.I} {fr : Bool} {v : Value}
    (hs : setAt o.e path el u y = some el') (hv : RdV w (Av S B fr) u y v) :
    ∃ cur : Array Value, w.heap[b]? = some (.cells cur o.eid (0, 0)) ∧ i * o.e.size + offAt o.e path + u.size ≤ cur.size ∧
      Inv B X w0 S ν (st.turnK tag ⟨o.eid, o.fr && (fr || u.flat), o.e, o.xs.set i el'⟩ (i * o.e.size + offAt o.e path) u.size) tmps (w.setRow b (splice cur.toList (i * o.e.size + offAt o.e path) v.cells.toList).toArray) := by
  obtain ⟨cur, c1, c2, c3⟩ := h.store ho hν hi hs hv
  have hl := hv.cells.len
  refine ⟨cur, c1, c2, c3.rehole fun q hq => ?_⟩
  have := hole_store (objs' := (st.turn tag ⟨o.eid, o.fr && (fr || u.flat), o.e, o.xs.set i el'⟩).objs) h (bo := some tag) (b := b) (k0 := 0) (lo := i * o.e.size + offAt o.e path) ⟨⟨o, ho⟩, ⟨n, cap, hν⟩, rfl⟩ (vs := v.cells.toList) c1 (by omega) (fun g p hp => hexs g p hp) (q := q) (by rw [hl]; exact hq)
  rwa [Nat.zero_add] at this
theorem Inv.storeLK (h : Inv B X w0 S ν st tmps w) {o : Obj} (ho : st.lent = some o) {b n cap : Nat} (hν : X.v = .slice (some ⟨b, X.k, none⟩) n cap) {i : Nat} {el el' : o.e.I} (hi : o.xs[i]? = some el) {path : List Step} {u : Ty} {y : u.I} {fr : Bool} {v : Value}
    (hs : setAt o.e path el u y = some el') (hv : RdV w (Av S B fr) u y v) :
    ∃ cur : Array Value, w.heap[b]? = some (.cells cur o.eid (0, 0)) ∧ X.k + (i * o.e.size + offAt o.e path) + u.size ≤ cur.size ∧
      Inv B X w0 S ν (st.turnLK ⟨o.eid, false, o.e, o.xs.set i el'⟩ (i * o.e.size + offAt o.e path) u.size) tmps (w.setRow b (splice cur.toList (X.k + (i * o.e.size + offAt o.e path)) v.cells.toList).toArray) := by
  obtain ⟨cur, c1, c2, c3⟩ := h.storeL ho hν hi hs hv
  have hl := hv.cells.len
  refine ⟨cur, c1, c2, c3.rehole fun q hq => ?_⟩
  exact hole_store (objs' := st.objs) h (bo := none) (b := b) (k0 := X.k) (lo := i * o.e.size + offAt o.e path) ⟨⟨n, cap, hν⟩, rfl⟩ (vs := v.cells.toList) c1 (by omega) (fun g p hp => ⟨p, hp⟩) (q := q) (by rw [hl]; exact hq)
theorem evStore0_ok (hG : CtxOk P G) (h : Inv B X w0 S ν st tmps w) {o : Oper} {t : TypeId} {a v : Operand} (ho : o.op = .store t a v) (hr : (evStore0 G st o.dst t a v).run = some st') : MemOk P Λ B X w0 o tmps ds w st' := by
  unfold evStore0 at hr
  split at hr
  · rename_i u tag i path u' snap s hu ha hv
    split at hr
    · rename_i e
      subst e
      split at hr
      · rename_i fr y hy
        have hpt : Slot1Rd B X w S ν st.objs (.eptr tag i path u snap) _ := opd_ok (ds := ds) h ha
        obtain ⟨o0, b, n, cap, el0, p1, p2, p3, p4, p5, p6, _⟩ := hpt
        have hsv := opd_ok (ds := ds) h hv
        obtain ⟨S', hS', h', hyv⟩ := give_ok h hsv hy
        have fin : ∀ {o1 : Obj} {el el' : o1.e.I}, olook tag (st.give s).objs = some o1 → o1.xs[i.toNat]? = some el → setAt o1.e path el u y = some el' → o1.e = o0.e →
            (st' = ((st.give s).turn tag ⟨o1.eid, o1.fr && (fr || u.flat), o1.e, o1.xs.set i.toNat el'⟩).put o.dst .undef ∨ st' = ((st.give s).turnK tag ⟨o1.eid, o1.fr && (fr || u.flat), o1.e, o1.xs.set i.toNat el'⟩ (i.toNat * o1.e.size + offAt o1.e path) u.size).put o.dst .undef) → MemOk P Λ B X w0 o tmps ds w st' := by
          intro o1 el el' k1 k2 k3 k4 k5
          obtain ⟨cur, c1, c2, c3⟩ := h'.store k1 p2 k2 k3 hyv
          obtain ⟨cur', d1, d2, d3⟩ := h'.storeK k1 p2 k2 k3 hyv
          have e0 : cur = cur' := by rw [c1] at d1; cases d1; rfl
          subst e0
          have hc := hyv.cells
          have hrun := run_storeVar (P := P) (hG.ty _ _ hu) (v := (⟨tmps, ds⟩ : Act).eval v) hc.len hc.one c1 c2
          refine memOk_skip (w' := w.setRow b (splice cur.toList (i.toNat * o1.e.size + offAt o1.e path) ((⟨tmps, ds⟩ : Act).eval v).cells.toList).toArray) ?_ ?_ (fun hg => by simp [growOp, ho] at hg) (S := S') (ν := ν)
          · simp only [execOp, ho, p4]
            rw [← k4]
            simp [Instr.storeAt, Instr.sureAddr, hrun]
          · rcases k5 with k5 | k5
            · rw [k5]
              exact c3.put (s := .undef) (v := undef) trivial o.dst ds
            · rw [k5]
              exact d3.put (s := .undef) (v := undef) trivial o.dst ds
        -- the object is still there, and the same
        have same : ∀ o1, olook tag (st.give s).objs = some o1 → o1 = o0 := by
          intro o1 h1
          cases s with
          | ref tag' =>
            simp only [St.give] at h1
            split at h1
            · simp only [St.freeze] at h1
              by_cases e : tag = tag'
              · subst e; rw [olook_drop] at h1; cases h1
              · rw [olook_drop_ne e, p1] at h1; cases h1; rfl
            · rw [p1] at h1; cases h1; rfl
          | _ =>
            have h2 : olook tag st.objs = some o1 := h1
            rw [p1] at h2; cases h2; rfl
        dsimp only at hr
        split at hr
        · rename_i o1 ho1
          have e := same o1 ho1
          split at hr
          · split at hr
            · rename_i z hz
              cases hr
              subst e
              exact fin ho1 p5 (by rw [setAt_nil]; exact hz) rfl (.inl rfl)
            · cases hr
          · obtain ⟨el, hel, hr⟩ := run_bnd hr
            obtain ⟨_, hel2, _⟩ := idx_some hel
            split at hr
            · rename_i z hz
              cases hr
              exact fin ho1 hel2 hz (by rw [e]) (.inr rfl)
            · cases hr
        · cases hr
      · cases hr
    · cases hr
  · rename_i u i e path u' s hu ha hv
    split at hr
    · rename_i heq
      subst heq
      split at hr
      · rename_i fr y hy
        have hpt : Slot1Rd B X w S ν st.objs (.leptr i e path u) _ := opd_ok (ds := ds) h ha
        obtain ⟨b, n, cap, p1, p2, p3, p4⟩ := hpt
        have hsv := opd_ok (ds := ds) h hv
        obtain ⟨S', hS', h', hyv⟩ := give_ok h hsv hy
        dsimp only at hr
        split at hr
        · rename_i o1 ho1
          split at hr
          · rename_i heq
            subst heq
            obtain ⟨el, hel, hr⟩ := run_bnd hr
            obtain ⟨_, hel2, _⟩ := idx_some hel
            split at hr
            · rename_i z hz
              cases hr
              obtain ⟨cur, c1, c2, c3⟩ := h'.storeLK ho1 p1 hel2 hz hyv
              have hc := hyv.cells
              have hrun := run_storeVar (P := P) (hG.ty _ _ hu) (v := (⟨tmps, ds⟩ : Act).eval v) hc.len hc.one c1 c2
              refine memOk_skip (w' := w.setRow b (splice cur.toList (X.k + (i.toNat * o1.e.size + offAt o1.e path)) ((⟨tmps, ds⟩ : Act).eval v).cells.toList).toArray) ?_ ?_ (fun hg => by simp [growOp, ho] at hg) (S := S') (ν := ν)
              · simp only [execOp, ho, p3]
                simp [Instr.storeAt, Instr.sureAddr, hrun]
              · exact c3.put (s := .undef) (v := undef) trivial o.dst ds
            · cases hr
          · cases hr
        · cases hr
      · cases hr
    · cases hr
  · cases hr
theorem obj_cells {hv : Value} {o : Obj} (h : ObjRd B w S hv o) : hv.oneCell' = true := by
  obtain ⟨A, cap, e, _⟩ := obj_slice h
  rw [e]; rfl
theorem ref_hole {S1 : Nat → Prop} {q : Nat} {o : Obj} (h : Inv B X w0 S ν st tmps w) (ho : olook q st.objs = some o) : RdV w S1 .hole () (ν q) :=
  ⟨[ν q], by unfold Rd; exact ⟨ν q, rfl, obj_cells (h.obj q o ho)⟩, rfl⟩
theorem cell_new {b k : Nat} {cur : Array Value} {eid : TypeId} {v : Value} (hblk : w.heap[b]? = some (.cells cur eid (0, 0))) (hle : k + 1 ≤ cur.size) :
    (w.setRow b (splice cur.toList k [v]).toArray).cell? ⟨b, k, none⟩ = some v := by
  have hnew := setRow_heap w b cur (splice cur.toList k [v]).toArray eid (0, 0) hblk
  have : (splice cur.toList k [v]).toArray[k]? = some v := by
    rw [List.getElem?_toArray]
    exact splice_in (vs := [v]) (j := 0) (by simpa using hle) (by simp)
  simp [World.cell?, hnew, this]
theorem evStoreH_ok (hG : CtxOk P G) (h : Inv B X w0 S ν st tmps w) {o : Oper} {t : TypeId} {a v : Operand} (ho : o.op = .store t a v) (hr : (evStoreH G st o.dst t a v).run = some st') : MemOk P Λ B X w0 o tmps ds w st' := by
  have hcv : ∀ {r : Nat} {q : Obj}, olook r st.objs = some q → (ν r).cells.toList = [ν r] := fun {r q} hq => by
    obtain ⟨A, cap, e, _⟩ := obj_slice (h.obj r q hq)
    rw [e]; rfl
  unfold evStoreH at hr
  split at hr
  · rename_i e tag path snap r hu ha hv
    have hpt : Slot1Rd B X w S ν st.objs (.eptr tag 0 path .hole snap) _ := opd_ok (ds := ds) h ha
    obtain ⟨o0, b, n, cap, el0, p1, p2, p3, p4, p5, p6, _⟩ := hpt
    have hsv : Slot1Rd B X w S ν st.objs (.ref r) _ := opd_ok (ds := ds) h hv
    split at hr
    · rename_i o1 q ho1 hq
      rw [p1] at ho1
      have e1 := Option.some.inj ho1
      subst e1
      split at hr
      · rename_i el hxs
        split at hr
        · rename_i z hz
          split at hr
          · cases hr
            have hcs := hcv hq
            have hval : (⟨tmps, ds⟩ : Act).eval v = ν r := hsv.1
            obtain ⟨cur, c1, c2, c3⟩ := h.storeK p1 p2 (i := 0) (el := el) (by rw [hxs]; rfl) hz (ref_hole (S1 := Av S B true) h hq)
            have e2 : (⟨o0.eid, o0.fr && (true || Ty.hole.flat), o0.e, o0.xs.set 0 z⟩ : Obj) = ⟨o0.eid, o0.fr, o0.e, [z]⟩ := by rw [hxs]; simp
            rw [e2] at c3
            rw [Nat.zero_mul, Nat.zero_add, hcs] at c3
            rw [Nat.zero_mul, Nat.zero_add] at c2
            have c2' : offAt o0.e path + 1 ≤ cur.size := c2
            have hrun := run_storeVar (P := P) (hG.ty _ _ hu) (v := ν r) (g := b) (k := offAt o0.e path) (by rw [hcs]; rfl) (fun u hu => by rw [hcs, List.mem_singleton] at hu; rw [hu]; exact obj_cells (h.obj r q hq)) c1 c2'
            refine memOk_skip (w' := w.setRow b (splice cur.toList (offAt o0.e path) [ν r]).toArray) (S := S) (ν := ν) ?_ ((c3.rehole (hs := ⟨some tag, offAt o0.e path, r⟩ :: (st.turnK tag ⟨o0.eid, o0.fr, o0.e, [z]⟩ (offAt o0.e path) 1).holes) fun k hk => ?_).put (s := .undef) (v := undef) trivial o.dst ds) (fun hg => by simp [growOp, ho] at hg)
            · rw [hcs] at hrun
              simp only [execOp, ho, p4, hval]
              simp [Instr.storeAt, Instr.sureAddr, hrun]
            · rcases List.mem_cons.1 hk with hk | hk
              · subst hk
                refine ⟨b, 0, ⟨⟨_, look_new'⟩, ⟨n, cap, p2⟩, rfl⟩, ?_, hexs r q hq⟩
                rw [Nat.zero_add]
                exact cell_new c1 c2'
              · exact c3.hole k hk
          · cases hr
        · cases hr
      · cases hr
    · cases hr
  · rename_i e e' path r hu ha hv
    have hpt : Slot1Rd B X w S ν st.objs (.leptr 0 e' path .hole) _ := opd_ok (ds := ds) h ha
    obtain ⟨b, n, cap, p1, p2, p3, p4⟩ := hpt
    have hsv : Slot1Rd B X w S ν st.objs (.ref r) _ := opd_ok (ds := ds) h hv
    split at hr
    · rename_i o1 q ho1 hq
      split at hr
      · rename_i el hxs
        split at hr
        · rename_i z hz
          split at hr
          · rename_i hcond
            cases hr
            simp only [Bool.and_eq_true, decide_eq_true_eq] at hcond
            have hcs := hcv hq
            have hval : (⟨tmps, ds⟩ : Act).eval v = ν r := hsv.1
            obtain ⟨cur, c1, c2, c3⟩ := h.storeLK ho1 p1 (i := 0) (el := el) (by rw [hxs]; rfl) hz (ref_hole (S1 := Av S B true) h hq)
            have e2 : (⟨o1.eid, false, o1.e, o1.xs.set 0 z⟩ : Obj) = ⟨o1.eid, false, o1.e, [z]⟩ := by rw [hxs]; rfl
            rw [e2] at c3
            rw [Nat.zero_mul, Nat.zero_add, hcs] at c3
            rw [Nat.zero_mul, Nat.zero_add] at c2
            have c2' : X.k + offAt o1.e path + 1 ≤ cur.size := c2
            have hrun := run_storeVar (P := P) (hG.ty _ _ hu) (v := ν r) (g := b) (k := X.k + offAt o1.e path) (by rw [hcs]; rfl) (fun u hu => by rw [hcs, List.mem_singleton] at hu; rw [hu]; exact obj_cells (h.obj r q hq)) c1 c2'
            refine memOk_skip (w' := w.setRow b (splice cur.toList (X.k + offAt o1.e path) [ν r]).toArray) (S := S) (ν := ν) ?_ ((c3.rehole (hs := ⟨none, offAt o1.e path, r⟩ :: (st.turnLK ⟨o1.eid, false, o1.e, [z]⟩ (offAt o1.e path) 1).holes) fun k hk => ?_).put (s := .undef) (v := undef) trivial o.dst ds) (fun hg => by simp [growOp, ho] at hg)
            · rw [hcs] at hrun
              have e3 : offAt e' path = offAt o1.e path := by rw [hcond.2]
              simp only [execOp, ho, p3, hval]
              simp [Instr.storeAt, Instr.sureAddr, e3, hrun]
            · rcases List.mem_cons.1 hk with hk | hk
              · subst hk
                exact ⟨b, X.k, ⟨⟨n, cap, p1⟩, rfl⟩, cell_new c1 c2', q, hq⟩
              · exact c3.hole k hk
          · cases hr
        · cases hr
      · cases hr
    · cases hr
  · cases hr
end Go.Proofs.YtnldcpanpojeiaaGreatDoor
