/-
  Operations that read memory, or make an address: what the reading says of each is what the program does.
-/
import Derived.Test.YtnldcpanpojeiaaGreatDoorEvPure
namespace Go.Proofs.YtnldcpanpojeiaaGreatDoor
open Go.RowKit
variable {P : Program} {G : Ctx} {B : Nat} {X : Lnt} {w0 w w' : World} {S S' : Nat → Prop} {ν : Nat → Value} {st st' : St} {tmps : Array Value} {ds : List Deferred}
theorem evUn_ok (h : Inv B X w0 S ν st tmps w) {o : Oper} {op : UnOp} {t : TypeId} {x : Operand} (ho : o.op = .unOp op t x) (hr : (evUn st o.dst op x).run = some st') : AllOk P B X w0 S ν o tmps ds w st' := by
  unfold evUn at hr
  split at hr
  · rename_i b hx
    have ex : Slot1Rd B X w S ν st.objs (.lit b) _ := opd_ok (ds := ds) h hx
    cases hr
    exact all_put h (v := .bool !b) (fun w' => by simp [execOp, ho, show (⟨tmps, ds⟩ : Act).eval x = .bool b from ex, Op.unary]) (show SlotRd _ _ _ _ _ _ (.lit !b) _ from rfl)
  · rename_i f b hx
    have ex := val_bool (opd_ok (ds := ds) h hx)
    cases hr
    exact all_put h (v := .bool !b) (fun w' => by simp [execOp, ho, ex, Op.unary]) (bool_val _)
  · rename_i f k n hx
    have ex := val_int (opd_ok (ds := ds) h hx)
    cases hr
    exact all_put h (v := .int k (k.wrap (0 - n))) (fun w' => by simp [execOp, ho, ex, Op.unary, Op.intArith]) (int_val _ _)
  · cases hr
theorem evMove_ok (h : Inv B X w0 S ν st tmps w) {o : Oper} {x : Operand} (ho : o.op = .move x ∨ o.op = .assign x) {s : Slot} (hx : st.opd x = some s) : AllOk P B X w0 S ν o tmps ds w (st.put o.dst s) :=
  all_put h (fun w' => by rcases ho with ho | ho <;> simp [execOp, ho]) (opd_ok (ds := ds) h hx)
theorem evConvert_ok (hG : CtxOk P G) (h : Inv B X w0 S ν st tmps w) {o : Oper} {t t' : TypeId} {x : Operand} (ho : o.op = .convert t t' x) (hr : (evConvert G st o.dst t t' x).run = some st') : AllOk P B X w0 S ν o tmps ds w st' := by
  unfold evConvert at hr
  split at hr
  · rename_i k1 k f k2 n hs hd hx
    have ex := val_int (opd_ok (ds := ds) h hx)
    obtain ⟨d1, e1, c1⟩ := (hG.ty _ _ hs).desc
    obtain ⟨d2, e2, c2⟩ := (hG.ty _ _ hd).desc
    cases d2 <;> simp only [dchk] at c2 <;> try contradiction
    rename_i k3
    simp only [decide_eq_true_eq] at c2
    subst c2
    cases hr
    refine all_put h (v := .int k3 (k3.wrap n)) (fun w' => ?_) (int_val _ _)
    simp only [execOp, ho, ex, convert]
    cases d1 <;> simp [run_underlying e1, run_underlying e2, Conv.intToInt] <;> simp only [dchk] at c1 <;> contradiction
  · rename_i k1 f k2 n hs hd hx
    have ex := val_int (opd_ok (ds := ds) h hx)
    obtain ⟨d1, e1, c1⟩ := (hG.ty _ _ hs).desc
    obtain ⟨d2, e2, c2⟩ := (hG.ty _ _ hd).desc
    cases d2 <;> simp only [dchk] at c2 <;> try contradiction
    cases hr
    refine all_put h (v := .string (Utf8.encode n)) (fun w' => ?_) (str_val _)
    simp only [execOp, ho, ex, convert]
    cases d1 <;> simp [run_underlying e1, run_underlying e2, Conv.intToString] <;> simp only [dchk] at c1 <;> contradiction
  · cases hr
theorem evMinMax_ok (h : Inv B X w0 S ν st tmps w) {o : Oper} {b : Bool} {ts : Array TypeId} {x y : Operand} (ho : o.op = .call { callee := .builtin (if b then .max else .min), args := #[x, y], argTypes := ts })
    (hr : (evMinMax st o.dst b x y).run = some st') : AllOk P B X w0 S ν o tmps ds w st' := by
  unfold evMinMax at hr
  split at hr
  · rename_i f1 k a f2 k' c hx hy
    have ex := val_int (opd_ok (ds := ds) h hx)
    have ey := val_int (opd_ok (ds := ds) h hy)
    split at hr
    · rename_i hk
      subst hk
      cases hr
      cases b
      · refine all_put h (v := .int k (if c < a then c else a)) (fun w' => ?_) (int_val _ _)
        simp [execOp, ho, resolve, invoke, builtin, ex, ey, run_min_int2]
      · refine all_put h (v := .int k (if c > a then c else a)) (fun w' => ?_) (int_val _ _)
        simp [execOp, ho, resolve, invoke, builtin, ex, ey, run_max_int2]
    · cases hr
  · cases hr
theorem evMinMax3_ok (h : Inv B X w0 S ν st tmps w) {o : Oper} {b : Bool} {ts : Array TypeId} {x y z : Operand} (ho : o.op = .call { callee := .builtin (if b then .max else .min), args := #[x, y, z], argTypes := ts })
    (hr : (evMinMax3 st o.dst b x y z).run = some st') : AllOk P B X w0 S ν o tmps ds w st' := by
  unfold evMinMax3 at hr
  split at hr
  · rename_i f1 k a f2 k' c f3 k'' e hx hy hz
    have ex := val_int (opd_ok (ds := ds) h hx)
    have ey := val_int (opd_ok (ds := ds) h hy)
    have ez := val_int (opd_ok (ds := ds) h hz)
    split at hr
    · rename_i hk
      obtain ⟨rfl, rfl⟩ := hk
      cases hr
      cases b
      · refine all_put h (v := .int k (if e < (if c < a then c else a) then e else (if c < a then c else a))) (fun w' => ?_) (int_val _ _)
        simp [execOp, ho, resolve, invoke, builtin, ex, ey, ez, Builtin.min_, Builtin.min2]
      · refine all_put h (v := .int k (if e > (if c > a then c else a) then e else (if c > a then c else a))) (fun w' => ?_) (int_val _ _)
        simp [execOp, ho, resolve, invoke, builtin, ex, ey, ez, Builtin.max_, Builtin.max2]
    · cases hr
  · cases hr
theorem ref_val (h : Inv B X w0 S ν st tmps w) {g : Nat} {v : Value} (hs : Slot1Rd B X w S ν st.objs (.ref g) v) {o : Obj} (ho : olook g st.objs = some o) : v = ν g ∧ ObjRd B w S (ν g) o :=
  ⟨hs.1, h.obj g o ho⟩
theorem obj_slice {v : Value} {o : Obj} (h : ObjRd B w S v o) : ∃ A cap, v = .slice A o.xs.length cap ∧ o.xs.length ≤ cap := by
  obtain ⟨cs, h1, _⟩ := h
  rcases h1.2 with ⟨rfl, hn⟩ | ⟨g, cap, cur, rfl, _, _, hc, _⟩
  · exact ⟨none, 0, by rw [hn], by omega⟩
  · exact ⟨_, _, rfl, hc⟩
theorem win_slice {o : Obj} (h : WinRd w S X o) : ∃ A cap, X.v = .slice A o.xs.length cap ∧ o.xs.length ≤ cap := by
  obtain ⟨cs, _, _, h1⟩ := h
  rcases h1 with ⟨e, hn⟩ | ⟨b, cap, cur, e, hc, _⟩
  · exact ⟨none, 0, by rw [e, hn], by omega⟩
  · exact ⟨_, _, e, hc⟩
theorem val_slice {S : Nat → Prop} {e : Ty} {xs : List e.I} {v : Value} (h : RdV w S (.sl e) xs v) : ∃ A cap, v = .slice A xs.length cap ∧ xs.length ≤ cap ∧ (A = none → cap = 0) ∧
      ∀ j x, xs[j]? = some x → ∃ ad, A = some ad ∧ ¬ S ad.block ∧ ad.block < w.heap.size ∧
        ∃ us, Rd w S e x us ∧ ∀ i u, us[i]? = some u → w.cell? (ad.add (j * e.size + i)) = some u := by
  obtain ⟨cs, h1, h2⟩ := h
  unfold Rd at h1
  obtain ⟨A, cap, rfl, h3, hz, h4⟩ := h1
  exact ⟨A, cap, h2, h3, hz, h4⟩
theorem run_len {t e : TypeId} (ht : P.underlying t = some (.slice e)) (A : Option Addr) (n cap : Nat) (ty : TypeId) (w' : World) : (Builtin.len_ #[t] ty #[.slice A n cap]).run P w' = .ok (.int .i64 n) w' := by
  simp [Builtin.len_, run_underlying ht, goInt]
theorem sl_desc (hG : CtxOk P G) {t : TypeId} {e : Ty} (ht : olook t G.ty = some (.sl e)) : ∃ u, P.underlying t = some (.slice u) := by
  obtain ⟨d, e1, c1⟩ := (hG.ty _ _ ht).desc
  cases d <;> simp only [dchk] at c1 <;> try contradiction
  exact ⟨_, e1⟩
theorem evLen_ok (hG : CtxOk P G) (h : Inv B X w0 S ν st tmps w) {o : Oper} {t : TypeId} {x : Operand} (ho : o.op = .call { callee := .builtin .len, args := #[x], argTypes := #[t] })
    (hr : (evLen G st o.dst t x).run = some st') : AllOk P B X w0 S ν o tmps ds w st' := by
  have key : ∀ {A : Option Addr} {n cap : Nat}, (∃ u, P.underlying t = some (.slice u)) → (⟨tmps, ds⟩ : Act).eval x = .slice A n cap → YAll P o ⟨tmps, ds⟩ (.int .i64 n) := by
    rintro A n cap ⟨u, hu⟩ e w'
    simp [execOp, ho, resolve, invoke, builtin, e, run_len hu]
  unfold evLen at hr
  split at hr
  · rename_i e f e' xs ht hx
    obtain ⟨A, cap, ev, _⟩ := val_slice (opd_ok (ds := ds) h hx)
    cases hr
    exact all_put h (key (sl_desc hG ht) ev) (int_val _ _)
  · rename_i f s ht hx
    have ex := val_str (opd_ok (ds := ds) h hx)
    cases hr
    obtain ⟨d, e1, c1⟩ := (hG.ty _ _ ht).desc
    cases d <;> simp only [dchk] at c1 <;> try contradiction
    refine all_put h (v := .int .i64 s.size) (fun w' => ?_) (int_val _ _)
    simp [execOp, ho, resolve, invoke, builtin, ex, Builtin.len_, run_underlying e1, goInt]
  · rename_i e g ht hx
    split at hr
    · rename_i ob hob
      obtain ⟨e1, e2⟩ := ref_val h (opd_ok (ds := ds) h hx) hob
      obtain ⟨A, cap, e3, _⟩ := obj_slice e2
      cases hr
      exact all_put h (key (sl_desc hG ht) (e1.trans e3)) (int_val _ _)
    · cases hr
  · rename_i e g l f e' xs ht hx
    have hv : Slot1Rd B X w S ν st.objs (.view g l f e' xs) _ := opd_ok (ds := ds) h hx
    obtain ⟨A, cap, ev, _⟩ := val_slice hv.2.1
    cases hr
    exact all_put h (key (sl_desc hG ht) ev) (int_val _ _)
  · rename_i e ht hx
    have hv : Slot1Rd B X w S ν st.objs .nil _ := opd_ok (ds := ds) h hx
    cases hr
    exact all_put h (key (sl_desc hG ht) hv) (int_val _ _)
  · rename_i e n ht hx
    have hv : Slot1Rd B X w S ν st.objs (.lenof n) _ := opd_ok (ds := ds) h hx
    obtain ⟨A, cap, ev⟩ := hv
    cases hr
    exact all_put h (key (sl_desc hG ht) ev) (int_val _ _)
  · rename_i e ht hx
    have hv : Slot1Rd B X w S ν st.objs .lref _ := opd_ok (ds := ds) h hx
    split at hr
    · rename_i ob hob
      obtain ⟨A, cap, e3, _⟩ := win_slice (h.win ob hob)
      cases hr
      exact all_put h (key (sl_desc hG ht) (hv.trans e3)) (int_val _ _)
    · cases hr
  · rename_i e l e' xs ht hx
    have hv : Slot1Rd B X w S ν st.objs (.lview l e' xs) _ := opd_ok (ds := ds) h hx
    obtain ⟨A, cap, ev, _⟩ := val_slice hv.1
    cases hr
    exact all_put h (key (sl_desc hG ht) ev) (int_val _ _)
  · cases hr
theorem idx_some {α : Type} {xs : List α} {i : Int} {x : α} (h : idx xs i = some x) : 0 ≤ i ∧ xs[i.toNat]? = some x ∧ i < xs.length ∧ i.toNat < xs.length := by
  unfold idx at h
  split at h
  · rename_i h0
    have hl : i.toNat < xs.length := by
      rcases Nat.lt_or_ge i.toNat xs.length with h' | h'
      · exact h'
      · rw [List.getElem?_eq_none h'] at h; cases h
    exact ⟨h0, h, by omega, hl⟩
  · cases h
theorem run_indexAt {t e : TypeId} {i : TypeInfo} (ht : P.underlying t = some (.slice e)) (hi : P.info? e = some i) {ad : Addr} {len cap : Nat} {k : IntKind} {n : Int} (h0 : 0 ≤ n) (hn : n < len) (w' : World) :
    (Instr.indexAt t (.slice (some ad) len cap) (.int k n)).run P w' = .ok (.pointer (some (ad.add (n.toNat * i.size)))) w' := by
  simp [Instr.indexAt, asIntOf, run_underlying ht, sizeOf, typeInfo, hi, h0, hn]
theorem evIndexAddr_ok (hG : CtxOk P G) (h : Inv B X w0 S ν st tmps w) {o : Oper} {t : TypeId} {x y : Operand} (ho : o.op = .indexAddr t x y) (hr : (evIndexAddr G st o.dst t x y).run = some st') : AllOk P B X w0 S ν o tmps ds w st' := by
  unfold evIndexAddr at hr
  split at hr
  · rename_i g fr e xs f k n hg hx hy
    split at hr
    · rename_i heq
      subst heq
      obtain ⟨A, cap, ev, _, _, hc⟩ := val_slice (opd_ok (ds := ds) h hx)
      have ey := val_int (opd_ok (ds := ds) h hy)
      obtain ⟨u, hu, hr⟩ := run_bnd hr
      cases hr
      obtain ⟨h0, h1, h2, _⟩ := idx_some hu
      obtain ⟨ad, rfl, hs, hl, us, hrd, hcell⟩ := hc _ _ h1
      obtain ⟨i, hi, hsz, _⟩ := (hG.sl _ _ hg).ty.info
      refine all_put h (v := .pointer (some (ad.add (n.toNat * g.e.size)))) (fun w' => ?_) ⟨_, rfl, by rw [add_block]; exact hs, by rw [add_block]; exact hl, us, hrd, fun j u hj => by rw [add_add]; exact hcell j u hj⟩
      simp only [execOp, ho, ev, ey]
      simp [run_indexAt (hG.sl _ _ hg).und hi h0 h2, hsz]
    · cases hr
  · rename_i g tag f k n hg hx hy
    have ey := val_int (opd_ok (ds := ds) h hy)
    split at hr
    · rename_i ob hob
      obtain ⟨e1, e2⟩ := ref_val h (opd_ok (ds := ds) h hx) hob
      split at hr
      · rename_i heq
        obtain ⟨u, hu, hr⟩ := run_bnd hr
        cases hr
        obtain ⟨h0, h1, h2, h3⟩ := idx_some hu
        obtain ⟨i, hi, hsz, _⟩ := (hG.sl _ _ hg).ty.info
        obtain ⟨cs, hown, hrow⟩ := e2
        rcases hown.2 with ⟨e3, hn⟩ | ⟨b, cap, cur, e3, _⟩
        · omega
        · refine all_put h (v := .pointer (some ⟨b, n.toNat * ob.e.size, none⟩)) (fun w' => ?_)
            (show Slot1Rd B X w S ν st.objs (.eptr tag n [] ob.e (some u)) _ from ⟨ob, b, _, cap, u, hob, e3, h0, by rw [offAt_nil]; rfl, h1, tyAt_nil _, fun x hx => by cases hx; exact getAt_nil _ _⟩)
          simp only [execOp, ho, e1.trans e3, ey]
          simp [run_indexAt (hG.sl _ _ hg).und hi h0 h2, hsz, heq, addr_add]
      · cases hr
    · cases hr
  · rename_i g f k n hg hx hy
    have ey := val_int (opd_ok (ds := ds) h hy)
    have hv : Slot1Rd B X w S ν st.objs .lref _ := opd_ok (ds := ds) h hx
    split at hr
    · rename_i ob hob
      split at hr
      · rename_i heq
        obtain ⟨u, hu, hr⟩ := run_bnd hr
        cases hr
        obtain ⟨h0, h1, h2, h3⟩ := idx_some hu
        obtain ⟨i, hi, hsz, _⟩ := (hG.sl _ _ hg).ty.info
        obtain ⟨cs, _, _, hw⟩ := h.win ob hob
        rcases hw with ⟨_, hn⟩ | ⟨b, cap, cur, e3, _⟩
        · omega
        · refine all_put h (v := .pointer (some ⟨b, X.k + (n.toNat * ob.e.size + 0), none⟩)) (fun w' => ?_)
            (show Slot1Rd B X w S ν st.objs (.leptr n ob.e [] ob.e) _ from ⟨b, _, cap, e3, h0, by rw [offAt_nil], tyAt_nil _⟩)
          simp only [execOp, ho, hv.trans e3, ey]
          simp [run_indexAt (hG.sl _ _ hg).und hi h0 h2, hsz, heq, addr_add]
      · cases hr
    · cases hr
  · cases hr
theorem cast_self {t u : Ty} {x : t.I} {y : u.I} (h : Ty.cast t u x = some y) : t = u := by
  unfold Ty.cast at h
  split at h
  · rename_i e; exact e
  · cases h
theorem isAgg_run {t : TypeId} {τ : Ty} (h : TyOk P t τ) (w' : World) : (isAgg t).run P w' = .ok τ.isAgg w' := by
  obtain ⟨d, e1, c1⟩ := h.desc
  unfold isAgg
  cases d <;> cases τ <;> simp only [dchk] at c1 <;> first | contradiction | simp [run_underlying e1, Ty.isAgg]
theorem run_loadCellsFrom (ad : Addr) : ∀ (us : List Value) (i : Nat) (acc : Array Value) (w' : World), (∀ j u, us[j]? = some u → w'.cell? (ad.add (i + j)) = some u) →
    (loadCellsFrom ad i us.length acc).run P w' = .ok (acc ++ us.toArray) w'
  | [], i, acc, w', _ => by simp [loadCellsFrom]
  | u :: us, i, acc, w', h => by
    have h0 : w'.cell? (ad.add i) = some u := by simpa using h 0 u rfl
    have hr := run_loadCellsFrom ad us (i + 1) (acc.push u) w' (fun j x hx => by
      have := h (j + 1) x hx
      rwa [show i + 1 + j = i + (j + 1) from by omega])
    simp only [List.length_cons, loadCellsFrom]
    simp [h0, hr]
theorem run_loadVar {t : TypeId} {τ : Ty} (h : TyOk P t τ) {ad : Addr} {us : List Value} (hl : us.length = τ.size) {w' : World} (hc : ∀ j u, us[j]? = some u → w'.cell? (ad.add j) = some u) (hp : ∀ a b, τ ≠ .pair a b) :
    (loadVar t ad).run P w' = .ok (mkV τ us) w' := by
  obtain ⟨i, hi, hsz, _⟩ := h.info
  unfold loadVar
  have hrun := run_loadCellsFrom (P := P) ad us 0 #[] w' (fun j u hu => by simpa using hc j u hu)
  have hty := isAgg_run h w'
  cases τ with
  | st p =>
    simp only [Ty.isAgg] at hty
    simp [hty, sizeOf, typeInfo, hi, hsz, loadCells, ← hl, hrun, mkV]
  | arr n e =>
    simp only [Ty.isAgg] at hty
    simp [hty, sizeOf, typeInfo, hi, hsz, loadCells, ← hl, hrun, mkV]
  | pair a b => exact absurd rfl (hp a b)
  | _ =>
    obtain ⟨u, rfl⟩ := one_cell hl rfl
    have h0 : w'.cell? ad = some u := by simpa [Addr.add] using hc 0 u rfl
    simp only [Ty.isAgg] at hty
    simp [hty, h0, mkV]
theorem no_pair {t : TypeId} {τ : Ty} (h : TyOk P t τ) : ∀ a b, τ ≠ .pair a b := by
  rintro a b rfl
  obtain ⟨d, _, c1⟩ := h.desc
  cases d <;> simp only [dchk] at c1 <;> contradiction
theorem Rd.at_ {S : Nat → Prop} : ∀ {t : Ty} {path : List Step} {x : t.I} {cs : List Value} {y : Dat}, Rd w S t x cs → getAt t path x = some y →
    tyAt t path = some y.t ∧ ∃ us, Rd w S y.t y.x us ∧ ∀ i u, us[i]? = some u → cs[offAt t path + i]? = some u
  | t, [], x, cs, y, h, hg => by
    rw [getAt_nil] at hg
    cases hg
    exact ⟨tyAt_nil _, cs, h, fun i u hi => by rw [offAt_nil]; simpa using hi⟩
  | .st p, .enter :: r, x, cs, y, h, hg => by
    unfold Rd at h
    exact Rd.at_ (t := p) (path := r) h hg
  | .pair a b, .left :: r, x, cs, y, h, hg => by
    unfold Rd at h
    obtain ⟨c1, c2, rfl, h1, h2⟩ := h
    obtain ⟨k1, us, k2, k3⟩ := Rd.at_ (t := a) (path := r) h1 hg
    refine ⟨k1, us, k2, fun i u hi => ?_⟩
    have := k3 i u hi
    show (c1 ++ c2)[offAt a r + i]? = some u
    rw [List.getElem?_append_left]
    · exact this
    · rcases Nat.lt_or_ge (offAt a r + i) c1.length with h | h
      · exact h
      · rw [List.getElem?_eq_none h] at this; cases this
  | .pair a b, .right :: r, x, cs, y, h, hg => by
    unfold Rd at h
    obtain ⟨c1, c2, rfl, h1, h2⟩ := h
    obtain ⟨k1, us, k2, k3⟩ := Rd.at_ (t := b) (path := r) h2 hg
    refine ⟨k1, us, k2, fun i u hi => ?_⟩
    show (c1 ++ c2)[a.size + offAt b r + i]? = some u
    rw [List.getElem?_append_right (by rw [h1.len]; omega), h1.len, show a.size + offAt b r + i - a.size = offAt b r + i from by omega]
    exact k3 i u hi
  | .arr n e, .at i :: r, x, cs, y, h, hg => by
    unfold Rd at h
    unfold getAt at hg
    split at hg
    · rename_i z hz
      obtain ⟨i0, i1, i2⟩ := idx_some' hz
      obtain ⟨us, k1, k2⟩ := h.2.2 i.toNat z i1
      obtain ⟨m1, vs, m2, m3⟩ := Rd.at_ (t := e) (path := r) k1 hg
      refine ⟨?_, vs, m2, fun j u hj => ?_⟩
      · show (if 0 ≤ i ∧ i.toNat < n then tyAt e r else none) = _
        rw [if_pos ⟨i0, h.1 ▸ i2⟩]; exact m1
      · have := k2 _ _ (m3 j u hj)
        show cs[i.toNat * e.size + offAt e r + j]? = some u
        rwa [Nat.add_assoc]
    · cases hg
  | .int _, .enter :: _, _, _, _, _, hg => by cases hg
  | .int _, .left :: _, _, _, _, _, hg => by cases hg
  | .int _, .right :: _, _, _, _, _, hg => by cases hg
  | .int _, .at _ :: _, _, _, _, _, hg => by cases hg
  | .bool, .enter :: _, _, _, _, _, hg => by cases hg
  | .bool, .left :: _, _, _, _, _, hg => by cases hg
  | .bool, .right :: _, _, _, _, _, hg => by cases hg
  | .bool, .at _ :: _, _, _, _, _, hg => by cases hg
  | .str, .enter :: _, _, _, _, _, hg => by cases hg
  | .str, .left :: _, _, _, _, _, hg => by cases hg
  | .str, .right :: _, _, _, _, _, hg => by cases hg
  | .str, .at _ :: _, _, _, _, _, hg => by cases hg
  | .err _ _, .enter :: _, _, _, _, _, hg => by cases hg
  | .err _ _, .left :: _, _, _, _, _, hg => by cases hg
  | .err _ _, .right :: _, _, _, _, _, hg => by cases hg
  | .err _ _, .at _ :: _, _, _, _, _, hg => by cases hg
  | .eno _, .enter :: _, _, _, _, _, hg => by cases hg
  | .eno _, .left :: _, _, _, _, _, hg => by cases hg
  | .eno _, .right :: _, _, _, _, _, hg => by cases hg
  | .eno _, .at _ :: _, _, _, _, _, hg => by cases hg
  | .arr _ _, .enter :: _, _, _, _, _, hg => by cases hg
  | .arr _ _, .left :: _, _, _, _, _, hg => by cases hg
  | .arr _ _, .right :: _, _, _, _, _, hg => by cases hg
  | .sl _, .enter :: _, _, _, _, _, hg => by cases hg
  | .sl _, .left :: _, _, _, _, _, hg => by cases hg
  | .sl _, .right :: _, _, _, _, _, hg => by cases hg
  | .sl _, .at _ :: _, _, _, _, _, hg => by cases hg
  | .ptr _, .enter :: _, _, _, _, _, hg => by cases hg
  | .fn _ _, .enter :: _, _, _, _, _, hg => by cases hg
  | .hole, .enter :: _, _, _, _, _, hg => by cases hg
  | .ptr _, .left :: _, _, _, _, _, hg => by cases hg
  | .fn _ _, .left :: _, _, _, _, _, hg => by cases hg
  | .hole, .left :: _, _, _, _, _, hg => by cases hg
  | .ptr _, .right :: _, _, _, _, _, hg => by cases hg
  | .fn _ _, .right :: _, _, _, _, _, hg => by cases hg
  | .hole, .right :: _, _, _, _, _, hg => by cases hg
  | .ptr _, .at _ :: _, _, _, _, _, hg => by cases hg
  | .fn _ _, .at _ :: _, _, _, _, _, hg => by cases hg
  | .hole, .at _ :: _, _, _, _, _, hg => by cases hg
  | .st _, .left :: _, _, _, _, _, hg => by cases hg
  | .st _, .right :: _, _, _, _, _, hg => by cases hg
  | .st _, .at _ :: _, _, _, _, _, hg => by cases hg
  | .pair _ _, .enter :: _, _, _, _, _, hg => by cases hg
  | .pair _ _, .at _ :: _, _, _, _, _, hg => by cases hg
theorem obj_at {v : Value} {o : Obj} (h : ObjRd B w S v o) {b n cap : Nat} (hv : v = .slice (some ⟨b, 0, none⟩) n cap) {i : Nat} {el : o.e.I} (hi : o.xs[i]? = some el) {path : List Step} {y : Dat} (hg : getAt o.e path el = some y) :
    ∃ us, Rd w (Av S B o.fr) y.t y.x us ∧ ∀ j u, us[j]? = some u → w.cell? ⟨b, i * o.e.size + offAt o.e path + j, none⟩ = some u := by
  obtain ⟨cs, hown, hrow⟩ := h
  obtain ⟨us, h1, h2⟩ := hrow i el hi
  obtain ⟨_, vs, h3, h4⟩ := h1.at_ hg
  refine ⟨vs, h3, fun j u hj => ?_⟩
  have hc := hown.cells (g := b) (by rw [hv]; rfl) _ _ (h2 _ _ (h4 j u hj))
  rw [addr_add] at hc
  rw [← hc]
  congr 2
  omega
theorem win_at {o : Obj} (h : WinRd w S X o) {b n cap : Nat} (hv : X.v = .slice (some ⟨b, X.k, none⟩) n cap) {i : Nat} {el : o.e.I} (hi : o.xs[i]? = some el) {path : List Step} {y : Dat} (hg : getAt o.e path el = some y) :
    ∃ us, Rd w S y.t y.x us ∧ ∀ j u, us[j]? = some u → w.cell? ⟨b, X.k + (i * o.e.size + offAt o.e path) + j, none⟩ = some u := by
  obtain ⟨cs, hl, hrow, hw⟩ := h
  obtain ⟨us, h1, h2⟩ := hrow i el hi
  obtain ⟨_, vs, h3, h4⟩ := h1.at_ hg
  refine ⟨vs, h3, fun j u hj => ?_⟩
  have hc := h2 _ _ (h4 j u hj)
  rcases hw with ⟨e, _⟩ | ⟨b', cap', cur, e, _, _, hb, _, hcs⟩
  · rw [e] at hv; cases hv
  · rw [e] at hv
    injection hv with hv
    injection hv with hv
    injection hv with hv
    subst hv
    rw [← hcs] at hc
    obtain ⟨hlt, hc⟩ := List.getElem?_eq_some_iff.1 hc
    rw [List.getElem_take, List.getElem_drop] at hc
    rw [List.length_take, List.length_drop] at hlt
    have hcur : cur[X.k + (i * o.e.size + (offAt o.e path + j))]? = some u := by
      have hlt' : X.k + (i * o.e.size + (offAt o.e path + j)) < cur.size := by
        have : cur.toList.length = cur.size := Array.length_toList
        omega
      rw [Array.getElem?_eq_getElem hlt', ← hc]
      rfl
    rw [show X.k + (i * o.e.size + offAt o.e path) + j = X.k + (i * o.e.size + (offAt o.e path + j)) by omega]
    simp [World.cell?, hb, hcur]
theorem WinRd.val {o : Obj} (h : WinRd w S X o) (hlt : ∀ b, X.v.ownBlock = some b → b < w.heap.size) {S0 : Nat → Prop} (h0 : ∀ b, b < w.heap.size → S0 b → S b ∧ X.v.ownBlock ≠ some b) : RdV w S0 (.sl o.e) o.xs X.v := by
  have hat := @win_at _ _ _ _ h
  obtain ⟨cs, hl, hrow, hw⟩ := h
  rcases hw with ⟨e, hn⟩ | ⟨b, cap, cur, e, hc, _, hb, _, _⟩
  · refine ⟨[.slice none 0 0], ?_, e⟩
    unfold Rd
    have hx : o.xs = [] := List.eq_nil_of_length_eq_zero hn
    rw [hx]
    exact ⟨none, 0, rfl, Nat.le_refl _, fun _ => rfl, fun j x hj => by simp at hj⟩
  · refine ⟨[.slice (some ⟨b, X.k, none⟩) o.xs.length cap], ?_, e⟩
    have hXb : X.v.ownBlock = some b := by rw [e]; rfl
    unfold Rd
    refine ⟨_, _, rfl, hc, (fun e => by cases e), fun j x hj => ?_⟩
    obtain ⟨us, h1, h2⟩ := hat e hj (getAt_nil _ _)
    refine ⟨_, rfl, fun hs => (h0 b (hlt b hXb) hs).2 hXb, hlt b hXb, us, h1.keep (Nat.le_refl _) (fun b hb hs => (h0 b hb hs).1) (fun _ _ _ => rfl), fun i u hi => ?_⟩
    rw [addr_add, ← h2 i u hi, offAt_nil]
    congr 2
    omega
theorem evLoad0_ok (hG : CtxOk P G) (h : Inv B X w0 S ν st tmps w) {o : Oper} {t : TypeId} {a : Operand} (ho : o.op = .load t a) (hr : (evLoad0 G st o.dst t a).run = some st') : PureOk P B X w0 S ν o tmps ds w st' := by
  have key : ∀ {u : Ty} {ad : Addr} {us : List Value} {S1 : Nat → Prop} {x : u.I}, TyOk P t u → (⟨tmps, ds⟩ : Act).eval a = .pointer (some ad) → Rd w S1 u x us → (∀ j v, us[j]? = some v → w.cell? (ad.add j) = some v) →
      Yields P o ⟨tmps, ds⟩ w (mkV u us) := by
    intro u ad us S1 x hT he hrd hc w' hw'
    have hrun := run_loadVar hT (ad := ad) hrd.len (w' := w') (fun j v hj => by
      have := hc j v hj
      exact (World.cell?_of_block (hw'.2 _ (World.block_lt_of_cell? w _ this))).trans this) (no_pair hT)
    simp only [execOp, ho, he]
    simp [Instr.loadAt, Instr.sureAddr, hrun]
  unfold evLoad0 at hr
  split at hr
  · rename_i u fr u' x hu ha
    split at hr
    · rename_i y hy
      have e := (cast_self hy).symm
      subst e
      cases hr
      have hs : Slot1Rd B X w S ν st.objs (.cptr fr u x) _ := opd_ok (ds := ds) h ha
      obtain ⟨ad, e1, hS, hl, us, h4, h5⟩ := hs
      have : y = x := by unfold Ty.cast at hy; simp at hy; exact hy.symm
      subst this
      exact pure_put h (key (hG.ty _ _ hu) e1 h4 h5) ⟨us, h4, rfl⟩
    · cases hr
  · rename_i u fr u' x hu ha
    split at hr
    · rename_i y hy
      have e := (cast_self hy).symm
      subst e
      cases hr
      have hs : RdV w (Av S B fr) (.ptr u) x _ := opd_ok (ds := ds) h ha
      obtain ⟨cs, g1, g2⟩ := hs
      unfold Rd at g1
      obtain ⟨ad, e1, hS, hl, us, h4, h5⟩ := g1
      have e2 : (⟨tmps, ds⟩ : Act).eval a = .pointer (some ad) := by rw [g2, e1]; rfl
      have : y = x := by unfold Ty.cast at hy; simp at hy; exact hy.symm
      subst this
      exact pure_put h (key (hG.ty _ _ hu) e2 h4 h5) ⟨us, h4, rfl⟩
    · cases hr
  · rename_i u tag i path u' snap hu ha
    have hs : Slot1Rd B X w S ν st.objs (.eptr tag i path u' snap) _ := opd_ok (ds := ds) h ha
    obtain ⟨o1, b, n, cap, el, h1, h2, h3, h4, h5, h6, h7⟩ := hs
    have hobj := h.obj tag o1 h1
    have fin : ∀ {y : Dat} {z : u.I}, getAt o1.e path el = some y → Ty.cast y.t u y.x = some z → st' = st.put o.dst (.val o1.fr u z) → PureOk P B X w0 S ν o tmps ds w st' := by
      intro y z hy hz e
      obtain ⟨us, k1, k2⟩ := obj_at hobj h2 h5 hy
      obtain ⟨yt, yx⟩ := y
      have e := (cast_self hz).symm
      dsimp only at e
      subst e
      have : z = yx := by unfold Ty.cast at hz; simp at hz; exact hz.symm
      subst this
      rw [e]
      exact pure_put h (key (hG.ty _ _ hu) h4 k1 (fun j v hj => by rw [addr_add]; exact k2 j v hj)) ⟨us, k1, rfl⟩
    split at hr
    · rename_i o2 ho2
      rw [ho2] at h1
      cases h1
      split at hr
      · rename_i x
        split at hr
        · rename_i y hy
          cases hr
          exact fin (h7 x rfl) hy rfl
        · cases hr
      · obtain ⟨el2, hel, hr⟩ := run_bnd hr
        obtain ⟨_, hel2, _⟩ := idx_some hel
        rw [hel2] at h5
        cases h5
        split at hr
        · rename_i u2 x2 hx2
          split at hr
          · rename_i y hy
            cases hr
            exact fin hx2 hy rfl
          · cases hr
        · cases hr
    · cases hr
  · rename_i u i e path u' hu ha
    have hs : Slot1Rd B X w S ν st.objs (.leptr i e path u') _ := opd_ok (ds := ds) h ha
    obtain ⟨b, n, cap, h1, h2, h3, h4⟩ := hs
    split at hr
    · rename_i ob hob
      split at hr
      · rename_i heq
        subst heq
        obtain ⟨el, hel, hr⟩ := run_bnd hr
        obtain ⟨_, hel2, _⟩ := idx_some hel
        split at hr
        · rename_i u2 x2 hx2
          split at hr
          · rename_i y hy
            cases hr
            obtain ⟨us, k1, k2⟩ := win_at (h.win ob hob) h1 hel2 hx2
            have e := (cast_self hy).symm
            subst e
            have : y = x2 := by unfold Ty.cast at hy; simp at hy; exact hy.symm
            subst this
            exact pure_put h (key (hG.ty _ _ hu) h3 k1 (fun j v hj => by rw [addr_add]; exact k2 j v hj)) ⟨us, k1, rfl⟩
          · cases hr
        · cases hr
      · cases hr
    · cases hr
  · cases hr
theorem hlook_mem {b : Option Nat} {k r : Nat} : ∀ {l : List Hole}, hlook b k l = some r → ∃ q ∈ l, q.box = b ∧ q.off = k ∧ q.row = r
  | [], h => by cases h
  | q :: l, h => by
    unfold hlook at h
    split at h
    · rename_i hc
      cases h
      rw [Bool.and_eq_true] at hc
      exact ⟨q, List.mem_cons_self, sameBox_iff.1 hc.1, nbeq.1 hc.2, rfl⟩
    · obtain ⟨q', h1, h2⟩ := hlook_mem h
      exact ⟨q', List.mem_cons_of_mem _ h1, h2⟩
theorem rowObj_some {b : Option Nat} {k : Nat} {ro : Nat × Obj} (h : rowObj st b k = some ro) : hlook b k st.holes = some ro.1 ∧ olook ro.1 st.objs = some ro.2 := by
  unfold rowObj at h
  split at h
  · rename_i r hr
    split at h
    · rename_i o ho
      cases h
      exact ⟨hr, ho⟩
    · cases h
  · cases h
theorem Inv.rowAt (h : Inv B X w0 S ν st tmps w) {bo : Option Nat} {k : Nat} {ro : Nat × Obj} (hr : rowObj st bo k = some ro) {b k0 : Nat} (hb : BoxAt X ν st.objs bo b k0) : w.cell? ⟨b, k0 + k, none⟩ = some (ν ro.1) ∧ olook ro.1 st.objs = some ro.2 := by
  obtain ⟨h1, h2⟩ := rowObj_some hr
  obtain ⟨q, hq, rfl, rfl, e⟩ := hlook_mem h1
  obtain ⟨b', k', p1, p2, _⟩ := h.hole q hq
  have : b' = b ∧ k' = k0 := by
    cases hbo : q.box with
    | none =>
      rw [hbo] at p1 hb
      obtain ⟨⟨n, cap, e1⟩, e2⟩ := p1
      obtain ⟨⟨n', cap', e3⟩, e4⟩ := hb
      rw [e1] at e3
      cases e3
      exact ⟨rfl, e2.trans e4.symm⟩
    | some g =>
      rw [hbo] at p1 hb
      obtain ⟨_, ⟨n, cap, e1⟩, e2⟩ := p1
      obtain ⟨_, ⟨n', cap', e3⟩, e4⟩ := hb
      rw [e1] at e3
      cases e3
      exact ⟨rfl, e2.trans e4.symm⟩
  obtain ⟨rfl, rfl⟩ := this
  exact ⟨by rw [p2, e], h2⟩
theorem load_cell (hG : CtxOk P G) {o : Oper} {t : TypeId} {a : Operand} (ho : o.op = .load t a) {e : Ty} (ht : olook t G.ty = some (.sl e)) {b k : Nat} {v : Value} (ha : (⟨tmps, ds⟩ : Act).eval a = .pointer (some ⟨b, k, none⟩)) (hc : w.cell? ⟨b, k, none⟩ = some v) : Yields P o ⟨tmps, ds⟩ w v := by
  intro w' hw'
  have hT := hG.ty _ _ ht
  have hrun := run_loadVar hT (ad := ⟨b, k, none⟩) (us := [v]) rfl (w' := w') (fun j u hj => by
    cases j with
    | zero =>
      cases hj
      rw [addr_add, Nat.add_zero]
      exact (World.cell?_of_block (hw'.2 _ (World.block_lt_of_cell? w _ hc))).trans hc
    | succ j => simp at hj) (no_pair hT)
  simp only [execOp, ho, ha]
  simp [Instr.loadAt, Instr.sureAddr, hrun, mkV]
theorem evLoadH_ok (hG : CtxOk P G) (h : Inv B X w0 S ν st tmps w) {o : Oper} {t : TypeId} {a : Operand} (ho : o.op = .load t a) (hr : (evLoadH G st o.dst t a).run = some st') : PureOk P B X w0 S ν o tmps ds w st' := by
  unfold evLoadH at hr
  split at hr
  · rename_i e tag path u snap hu ha
    have hs : Slot1Rd B X w S ν st.objs (.eptr tag 0 path u snap) _ := opd_ok (ds := ds) h ha
    obtain ⟨o1, b, n, cap, el, h1, h2, h3, h4, h5, h6, h7⟩ := hs
    split at hr
    · rename_i o2 ho2
      rw [ho2] at h1
      have e1 := Option.some.inj h1
      subst e1
      split at hr
      · rename_i ro hro
        split at hr
        · cases hr
          obtain ⟨k1, k2⟩ := h.rowAt hro (bo := some tag) (b := b) (k0 := 0) ⟨⟨_, ho2⟩, ⟨n, cap, h2⟩, rfl⟩
          refine pure_put h (load_cell hG ho hu (k := 0 + offAt o2.e path) (by rw [h4]; simp) k1) ⟨rfl, _, k2⟩
        · cases hr
      · cases hr
    · cases hr
  · rename_i e e' path u hu ha
    have hs : Slot1Rd B X w S ν st.objs (.leptr 0 e' path u) _ := opd_ok (ds := ds) h ha
    obtain ⟨b, n, cap, h1, h2, h3, h4⟩ := hs
    split at hr
    · rename_i ro hro
      split at hr
      · cases hr
        obtain ⟨k1, k2⟩ := h.rowAt hro (bo := none) (b := b) (k0 := X.k) ⟨⟨n, cap, h1⟩, rfl⟩
        refine pure_put h (load_cell hG ho hu (k := X.k + offAt e' path) (by rw [h3]; simp) k1) ⟨rfl, _, k2⟩
      · cases hr
    · cases hr
  · cases hr
theorem atB_at (b : Nat) : ∀ (cs : List Value) (i j : Nat) (u : Value), cs[j]? = some u → (atB b i cs)[j]? = some (b, i + j, u)
  | [], _, _, _, h => by simp at h
  | c :: l, i, 0, u, h => by
    cases h
    rfl
  | c :: l, i, j + 1, u, h => by
    have := atB_at b l (i + 1) j u h
    rw [show i + (j + 1) = i + 1 + j by omega]
    exact this
theorem evLoad_ok (hG : CtxOk P G) (h : Inv B X w0 S ν st tmps w) {o : Oper} {t : TypeId} {a : Operand} (ho : o.op = .load t a) (hr : (evLoad G st o.dst t a).run = some st') : PureOk P B X w0 S ν o tmps ds w st' := by
  unfold evLoad at hr
  split at hr
  · exact evLoadH_ok hG h ho hr
  split at hr
  · rename_i hg
    split at hr
    · rename_i v cs u hv hc hu
      split at hr
      · rename_i y hy
        cases hr
        have e := (cast_self hy).symm
        subst e
        have : y = v.x := by unfold Ty.cast at hy; simp at hy; exact hy.symm
        subst this
        have hcs : cellsOf v.t v.x = some cs := by
          have : gcells = cellsOf v.t v.x := by unfold gcells; rw [hv]
          rw [← this]; exact hc
        have hrd : Rd w (Av S B true) v.t v.x cs := cellsOf_rd hcs
        have hheld : Held w := h.base.2.kept h.fr
        have hcell : ∀ j u, cs[j]? = some u → w.cell? ((⟨gIdx, 0, none⟩ : Addr).add j) = some u := fun j u hj => by
          rw [addr_add, Nat.zero_add]
          refine hheld ((atB 0 0 laidL).length + j) (gIdx, j, u) ?_
          unfold heldCells
          rw [hc, List.getElem?_append_right (Nat.le_add_right _ _), Nat.add_sub_cancel_left]
          have := atB_at gIdx cs 0 j u hj
          rw [Nat.zero_add] at this
          exact this
        have he : (⟨tmps, ds⟩ : Act).eval a = .pointer (some ⟨gIdx, 0, none⟩) := by
          cases a with
          | global g =>
            have : g = gIdx := Nat.eq_of_beq_eq_true hg
            subst this
            rfl
          | _ => cases hg
        have hy2 : Yields P o ⟨tmps, ds⟩ w (mkV v.t cs) := by
          intro w' hw'
          have hrun := run_loadVar (hG.ty _ _ hu) (ad := ⟨gIdx, 0, none⟩) hrd.len (w' := w') (fun j v hj => by
            have := hcell j v hj
            exact (World.cell?_of_block (hw'.2 _ (World.block_lt_of_cell? w _ this))).trans this) (no_pair (hG.ty _ _ hu))
          simp only [execOp, ho, he]
          simp [Instr.loadAt, Instr.sureAddr, hrun]
        exact pure_put h hy2 ⟨cs, hrd, rfl⟩
      · cases hr
    · cases hr
  · exact evLoad0_ok hG h ho hr
end Go.Proofs.YtnldcpanpojeiaaGreatDoor
