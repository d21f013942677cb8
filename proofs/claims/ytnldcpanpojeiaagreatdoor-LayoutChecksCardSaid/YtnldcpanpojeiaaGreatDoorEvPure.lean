/-
  Operations that touch no memory, or only read it: what the reading says of each is what the program does.
-/
import Derived.Test.YtnldcpanpojeiaaGreatDoorEvTurn
namespace Go.Proofs.YtnldcpanpojeiaaGreatDoor
open Go.RowKit
variable {P : Program} {B : Nat} {X : Lnt} {w0 w w' : World} {S S' : Nat → Prop} {ν : Nat → Value} {st st' : St} {tmps : Array Value} {ds : List Deferred}
def zchk : Ty → List Value → Bool
  | .int k, [.int k' n] => decide (k = k') && decide (n = 0)
  | .bool, [.bool b] => !b
  | .str, [.string s] => s.size == 0
  | .err _ _, [.nilIface] => true
  | .arr n e, cs => cs.length == n * e.size && (List.range n).all fun j => zchk e ((cs.drop (j * e.size)).take e.size)
  | .sl _, [.slice none 0 0] => true
  | .st p, cs => zchk p cs
  | .pair a b, cs => zchk a (cs.take a.size) && zchk b (cs.drop a.size)
  | _, _ => false
def aggOf (P : Program) (t : TypeId) : Option Bool := match P.underlying t with | some (.struct _) => some true | some (.array _ _) => some true | some _ => some false | none => none
def Ty.isPair : Ty → Bool
  | .pair _ _ => true
  | _ => false
def Ty.isAgg : Ty → Bool
  | .st _ => true
  | .arr _ _ => true
  | _ => false
def fchk (P : Program) : List Field → Nat → Ty → Bool
  | f :: r, off, .pair a b => f.offset == off && (P.info? f.type).any (fun i => i.size == a.size) && (aggOf P f.type == some a.isAgg) && (0 < a.size && !a.isPair) && fchk P r (off + a.size) b
  | [f], off, u => f.offset == off && (P.info? f.type).any (fun i => i.size == u.size) && (aggOf P f.type == some u.isAgg) && (0 < u.size && !u.isPair)
  | _, _, _ => false
def dchk (P : Program) : TypeDesc → Ty → Bool
  | .int k, .int k' => decide (k = k')
  | .bool, .bool => true
  | .string, .str => true
  | .slice _, .sl _ => true
  | .interface _, .err _ _ => true
  | .array n' t, .arr n e => n' == n && (P.info? t).any (fun i => i.size == e.size) && (aggOf P t == some e.isAgg) && !e.isPair && 0 < e.size
  | .pointer _, .ptr _ => true
  | .struct fs, .st p => fchk P fs.toList 0 p
  | _, _ => false
def tchk (P : Program) (t : TypeId) (τ : Ty) : Bool :=
  match P.info? t, P.underlying t with
  | some i, some d => i.size == τ.size && dchk P d τ && (0 < τ.size) && (!τ.plain || (match i.zero with | some z => zchk τ z.cells.toList && (match z with | .agg _ => τ.isAgg | _ => !τ.isAgg) | none => false))
  | _, _ => false
structure TyOk (P : Program) (t : TypeId) (τ : Ty) : Prop where
  desc : ∃ d, P.underlying t = some d ∧ dchk P d τ = true
  info : ∃ i, P.info? t = some i ∧ i.size = τ.size ∧ (τ.plain = true → ∃ z, i.zero = some z ∧ zchk τ z.cells.toList = true ∧ (τ.isAgg = true ↔ ∃ cs, z = .agg cs))
  pos : 0 < τ.size
theorem tchk_ok {t : TypeId} {τ : Ty} (h : tchk P t τ = true) : TyOk P t τ := by
  unfold tchk at h
  split at h
  · rename_i i d hi hd
    simp only [Bool.and_eq_true, beq_iff_eq, decide_eq_true_eq] at h
    obtain ⟨⟨⟨h1, h2⟩, h3⟩, h4⟩ := h
    refine ⟨⟨d, hd, h2⟩, ⟨i, hi, h1, fun hp => ?_⟩, h3⟩
    rw [hp] at h4
    simp only [Bool.not_true, Bool.false_or] at h4
    split at h4
    · rename_i z hz
      simp only [Bool.and_eq_true] at h4
      refine ⟨z, hz, h4.1, ?_⟩
      have h5 := h4.2
      split at h5
      · rename_i cs; exact ⟨fun _ => ⟨cs, rfl⟩, fun _ => h5⟩
      · rename_i hne
        constructor
        · intro e; rw [e] at h5; cases h5
        · rintro ⟨cs, rfl⟩; exact (hne cs rfl).elim
    · cases h4
  · cases h
structure SlOk (P : Program) (t : TypeId) (i : SlInfo) : Prop where
  und : P.underlying t = some (.slice i.eid)
  ty : TyOk P i.eid i.e
  lim : ∃ k, P.info? i.eid = some k ∧ i.lim * k.bytes ≤ 140737488355328
  max : i.lim ≤ maxLen
def schk (P : Program) (t : TypeId) (i : SlInfo) : Bool :=
  (match P.underlying t with | some (.slice e) => e == i.eid | _ => false) && tchk P i.eid i.e && (P.info? i.eid).any (fun k => decide (i.lim * k.bytes ≤ 140737488355328)) && decide (i.lim ≤ 9223372036854775807)
theorem schk_ok {t : TypeId} {i : SlInfo} (h : schk P t i = true) : SlOk P t i := by
  unfold schk at h
  simp only [Bool.and_eq_true, decide_eq_true_eq] at h
  obtain ⟨⟨⟨h1, h2⟩, h3⟩, h4⟩ := h
  refine ⟨?_, tchk_ok h2, ?_, by simp only [maxLen]; omega⟩
  · split at h1
    · rename_i e he; rw [he]; rw [beq_iff_eq] at h1; rw [h1]
    · cases h1
  · cases hk : P.info? i.eid with
    | none => rw [hk] at h3; cases h3
    | some k => rw [hk] at h3; exact ⟨k, rfl, by simpa using h3⟩
def scal (P : Program) (t : TypeId) : Ty → Bool
  | .int k => match P.underlying t with | some (.int k') => decide (k' = k) | _ => false
  | .bool => match P.underlying t with | some .bool => true | _ => false
  | _ => false
def qchk (P : Program) : List Field → Nat → Ty → Bool
  | f :: r, off, .pair a b => f.name != "_" && f.offset == off && scal P f.type a && qchk P r (off + 1) b
  | [f], off, u => f.name != "_" && f.offset == off && scal P f.type u
  | _, _, _ => false
structure QOk (P : Program) (t : TypeId) (p : Ty) : Prop where
  und : P.underlying t = some (.struct (P.fieldsOf t))
  held : P.stoodInHeld t = false
  guard : P.eqGuardType P.depth t = false
  fields : qchk P (P.fieldsOf t).toList 0 p = true
def echk (P : Program) (t : TypeId) (p : Ty) : Bool :=
  (match P.underlying t with | some (.struct _) => true | _ => false) && !P.stoodInHeld t && !P.eqGuardType P.depth t && qchk P (P.fieldsOf t).toList 0 p
theorem echk_ok {P : Program} {t : TypeId} {p : Ty} (h : echk P t p = true) : QOk P t p := by
  unfold echk at h
  simp only [Bool.and_eq_true, Bool.not_eq_true'] at h
  obtain ⟨⟨⟨h1, h2⟩, h3⟩, h4⟩ := h
  refine ⟨?_, h2, h3, h4⟩
  split at h1
  · rename_i fs he
    unfold Program.fieldsOf
    rw [he]
  · cases h1
structure CtxOk (P : Program) (G : Ctx) : Prop where
  ty : ∀ t τ, olook t G.ty = some τ → TyOk P t τ
  sl : ∀ t i, olook t G.sls = some i → SlOk P t i
  eq : ∀ t p, olook t G.eqs = some p → QOk P t p
  eno : ∀ t, inList t G.enos = true → P.underlying t = some (.int .i64)
theorem olook_all {α : Type} {f : Nat → α → Bool} : ∀ {l : List (Nat × α)}, l.all (fun p => f p.1 p.2) = true → ∀ {t : Nat} {x : α}, olook t l = some x → f t x = true
  | [], _, _, _, hx => by cases hx
  | (k, o) :: r, h, t, x, hx => by
    simp only [List.all_cons, Bool.and_eq_true] at h
    rw [olook_cons] at hx
    split at hx
    · rename_i e; cases hx; rw [← e]; exact h.1
    · exact olook_all h.2 hx
def nchk (P : Program) (t : Nat) : Bool := match P.underlying t with | some (.int .i64) => true | _ => false
theorem inList_all {f : Nat → Bool} : ∀ {l : List Nat}, l.all f = true → ∀ {t : Nat}, inList t l = true → f t = true
  | [], _, _, hx => by cases hx
  | k :: r, h, t, hx => by
    simp only [List.all_cons, Bool.and_eq_true] at h
    unfold inList at hx
    split at hx
    · rename_i e; rw [← nbeq.1 e]; exact h.1
    · exact inList_all h.2 hx
theorem ctx_ok {G : Ctx} (h : (G.ty.all (fun p => tchk P p.1 p.2) && G.sls.all (fun p => schk P p.1 p.2) && G.eqs.all (fun p => echk P p.1 p.2) && G.enos.all (nchk P)) = true) : CtxOk P G := by
  rw [Bool.and_eq_true, Bool.and_eq_true, Bool.and_eq_true] at h
  refine ⟨fun t τ hx => tchk_ok (olook_all (f := tchk P) h.1.1.1 hx), fun t i hx => schk_ok (olook_all (f := schk P) h.1.1.2 hx), fun t p hx => echk_ok (olook_all (f := echk P) h.1.2 hx), fun t hx => ?_⟩
  have := inList_all h.2 hx
  unfold nchk at this
  split at this
  · assumption
  · cases this
theorem arr_desc {t : TypeId} {n : Nat} {e : Ty} (h : TyOk P t (.arr n e)) : ∃ t', P.underlying t = some (.array n t') ∧ (∃ i, P.info? t' = some i ∧ i.size = e.size) ∧ aggOf P t' = some e.isAgg ∧ e.isPair = false ∧ 0 < e.size := by
  obtain ⟨d, e1, c1⟩ := h.desc
  cases d <;> simp only [dchk] at c1 <;> try contradiction
  rename_i n' t'
  simp only [Bool.and_eq_true, beq_iff_eq, Bool.not_eq_true', decide_eq_true_eq] at c1
  obtain ⟨⟨⟨⟨h1, h2⟩, h3⟩, h4⟩, h5⟩ := c1
  subst h1
  refine ⟨t', e1, ?_, h3, h4, h5⟩
  cases hi : P.info? t' with
  | none => rw [hi] at h2; cases h2
  | some i => rw [hi] at h2; exact ⟨i, rfl, by simpa using h2⟩
theorem run_bnd {α β : Type} {o : Option β} {k : β → Tr α} {x : α} (h : (Tr.bnd o k).run = some x) : ∃ b, o = some b ∧ (k b).run = some x := by
  cases o with
  | none => cases h
  | some b => exact ⟨b, rfl, h⟩
theorem run_br {α : Type} {c : Bool} {t e : Tr α} {x : α} (h : (Tr.br c t e).run = some x) : (c = true ∧ t.run = some x) ∨ (c = false ∧ e.run = some x) := by
  cases c with
  | true => exact .inl ⟨rfl, h⟩
  | false => exact .inr ⟨rfl, h⟩
theorem run_bind {α γ : Type} {f : α → Tr γ} {y : γ} : ∀ {t : Tr α}, (t.bind f).run = some y → ∃ x, t.run = some x ∧ (f x).run = some y
  | .pure a, h => ⟨a, rfl, h⟩
  | .fail, h => by cases h
  | .br c t e, h => by
    rcases run_br h with ⟨rfl, h⟩ | ⟨rfl, h⟩
    · exact run_bind (t := t) h
    · exact run_bind (t := e) h
  | .bnd o k, h => by
    obtain ⟨b, rfl, h⟩ := run_bnd h
    exact run_bind (t := k b) h
  | .alt o k j, h => by
    cases o with
    | none => cases h
    | some s => cases s with
      | inl b => exact run_bind (t := k b) h
      | inr b => exact run_bind (t := j b) h
theorem getAt_nil (t : Ty) (x : t.I) : getAt t [] x = some ⟨t, x⟩ := by cases t <;> rfl
theorem tyAt_nil (t : Ty) : tyAt t [] = some t := by cases t <;> rfl
theorem offAt_nil (t : Ty) : offAt t [] = 0 := by cases t <;> rfl
theorem setAt_nil (t : Ty) (x : t.I) (u : Ty) (y : u.I) : setAt t [] x u y = Ty.cast u t y := by cases t <;> rfl
theorem opd_ok (h : Inv B X w0 S ν st tmps w) {x : Operand} {s : Slot} (hx : st.opd x = some s) : SlotRd B X w S ν st.objs s ((⟨tmps, ds⟩ : Act).eval x) := by
  unfold St.opd at hx
  split at hx
  · cases hx
    obtain ⟨v, hv, hs⟩ := h.get _
    subst hv; exact hs
  · cases hx; exact ⟨_, by unfold Rd; rfl, rfl⟩
  · cases hx; rfl
  · cases hx; exact ⟨_, by unfold Rd; rfl, rfl⟩
  · cases hx; rfl
  · cases hx; rfl
  · cases hx; rfl
  · cases hx
theorem val_int {S : Nat → Prop} {k : IntKind} {n : (Ty.int k).I} {v : Value} (h : RdV w S (.int k) n v) : v = .int k n := by
  obtain ⟨cs, h1, h2⟩ := h; unfold Rd at h1; subst h1; exact h2
theorem val_bool {S : Nat → Prop} {b : Ty.bool.I} {v : Value} (h : RdV w S .bool b v) : v = .bool b := by
  obtain ⟨cs, h1, h2⟩ := h; unfold Rd at h1; subst h1; exact h2
theorem val_str {S : Nat → Prop} {b : Ty.str.I} {v : Value} (h : RdV w S .str b v) : v = .string b := by
  obtain ⟨cs, h1, h2⟩ := h; unfold Rd at h1; subst h1; exact h2
theorem int_val {S : Nat → Prop} (k : IntKind) (n : Int) : RdV w S (.int k) n (.int k n) := ⟨_, by unfold Rd; rfl, rfl⟩
theorem bool_val {S : Nat → Prop} (b : Bool) : RdV w S .bool b (.bool b) := ⟨_, by unfold Rd; rfl, rfl⟩
theorem str_val {S : Nat → Prop} (b : ByteArray) : RdV w S .str b (.string b) := ⟨_, by unfold Rd; rfl, rfl⟩
theorem const_val {y : Operand} {c : Int} (hc : constInt y = some c) {s : Slot} (hs : st.opd y = some s) : ∃ k, s = .val true (.int k) c := by
  unfold constInt at hc
  split at hc
  · cases hc; unfold St.opd at hs; cases hs; exact ⟨_, rfl⟩
  · cases hc
def Ext (w w' : World) : Prop := w.heap.size ≤ w'.heap.size ∧ ∀ k, k < w.heap.size → w'.heap[k]? = w.heap[k]?
theorem Ext.refl (w : World) : Ext w w := ⟨Nat.le_refl _, fun _ _ => rfl⟩
theorem Ext.heap {w w' : World} (h : w'.heap = w.heap) : Ext w w' := ⟨by rw [h]; exact Nat.le_refl _, fun _ _ => by rw [h]⟩
theorem Ext.trans {a b c : World} (h : Ext a b) (k : Ext b c) : Ext a c := ⟨Nat.le_trans h.1 k.1, fun i hi => (k.2 i (Nat.lt_of_lt_of_le hi h.1)).trans (h.2 i hi)⟩
theorem Ext.alloc (w : World) (o : Go.Obj) : Ext w (w.alloc o) := ⟨by simp, fun k hk => Below.heap_alloc w o k hk⟩
theorem Ext.below {w w' : World} (h : Below w.heap.size w w') : Ext w w' := ⟨h.size, h.block⟩
def Yields (P : Program) (o : Oper) (a : Act) (w : World) (v : Value) : Prop := ∀ w' : World, Ext w w' → (execOp a.eval o).run P w' = .ok (.value v) w'
def YAll (P : Program) (o : Oper) (a : Act) (v : Value) : Prop := ∀ w' : World, (execOp a.eval o).run P w' = .ok (.value v) w'
def PureOk (P : Program) (B : Nat) (X : Lnt) (w0 : World) (S : Nat → Prop) (ν : Nat → Value) (o : Oper) (tmps : Array Value) (ds : List Deferred) (w : World) (st' : St) : Prop :=
  ∃ v, Yields P o ⟨tmps, ds⟩ w v ∧ ∃ S1 : Nat → Prop, (∀ b, S1 b → S b) ∧ Inv B X w0 S1 ν st' (Act.put ⟨tmps, ds⟩ o.dst v).tmps w
theorem pure_put (h : Inv B X w0 S ν st tmps w) {o : Oper} {s : Slot} {v : Value} (hy : Yields P o ⟨tmps, ds⟩ w v) (hs : SlotRd B X w S ν st.objs s v) : PureOk P B X w0 S ν o tmps ds w (st.put o.dst s) :=
  ⟨v, hy, S, fun _ h => h, h.put hs o.dst ds⟩
def AllOk (P : Program) (B : Nat) (X : Lnt) (w0 : World) (S : Nat → Prop) (ν : Nat → Value) (o : Oper) (tmps : Array Value) (ds : List Deferred) (w : World) (st' : St) : Prop :=
  ∃ v, YAll P o ⟨tmps, ds⟩ v ∧ Inv B X w0 S ν st' (Act.put ⟨tmps, ds⟩ o.dst v).tmps w
theorem AllOk.ok {o : Oper} (h : AllOk P B X w0 S ν o tmps ds w st') : PureOk P B X w0 S ν o tmps ds w st' := let ⟨v, h1, h2⟩ := h; ⟨v, fun w' _ => h1 w', S, fun _ h => h, h2⟩
theorem all_put (h : Inv B X w0 S ν st tmps w) {o : Oper} {s : Slot} {v : Value} (hy : YAll P o ⟨tmps, ds⟩ v) (hs : SlotRd B X w S ν st.objs s v) : AllOk P B X w0 S ν o tmps ds w (st.put o.dst s) :=
  ⟨v, hy, h.put hs o.dst ds⟩
theorem cmp_run {t : TypeId} {op : BinOp} {a b : Int} {c : Bool} (h : cmpOp op a b = some c) (k : IntKind) (w' : World) : (binOp op t (.int k a) (.int k b)).run P w' = .ok (.bool c) w' ∧ ∀ x y, eqGuard op t x y (.int k a) (.int k b) = pure () := by
  cases op <;> simp only [cmpOp] at h <;> cases h <;> refine ⟨?_, fun x y => eqGuard_at_int _ _ _ _ _ _ _⟩ <;> simp [binOp, Op.intCmp]
theorem arith_run {t : TypeId} {op : BinOp} {a b c : Int} {k : IntKind} (h : arith op k a b = some c) (w' : World) : (binOp op t (.int k a) (.int k b)).run P w' = .ok (.int k c) w' ∧ ∀ x y, eqGuard op t x y (.int k a) (.int k b) = pure () := by
  cases op <;> simp only [arith] at h <;> cases h <;> refine ⟨?_, fun x y => eqGuard_at_int _ _ _ _ _ _ _⟩ <;> simp [binOp, Op.intArith, Op.intBits, ibits]
theorem div_run {t : TypeId} {op : BinOp} {a b : Int} {k : IntKind} (h : isDiv op = true) (hb : b ≠ 0) (w' : World) : (binOp op t (.int k a) (.int k b)).run P w' = .ok (.int k (divide op k a b)) w' ∧ ∀ x y, eqGuard op t x y (.int k a) (.int k b) = pure () := by
  cases op <;> simp only [isDiv] at h <;> first | contradiction | exact ⟨by simp [binOp, Op.intDiv, hb, divide], fun x y => eqGuard_at_int _ _ _ _ _ _ _⟩
theorem shift_run {t : TypeId} {op : BinOp} {a b : Int} {k k' : IntKind} (h : isShift op = true) (hb : 0 ≤ b) (w' : World) : (binOp op t (.int k a) (.int k' b)).run P w' = .ok (.int k (shiftBy op k a b)) w' ∧ ∀ x y, eqGuard op t x y (.int k a) (.int k' b) = pure () := by
  have hb' : ¬ b < 0 := by omega
  cases op <;> simp only [isShift] at h <;> first | contradiction | exact ⟨by simp [binOp, Op.shift, hb', shiftBy], fun x y => eqGuard_at_int _ _ _ _ _ _ _⟩
theorem yields_bin {o : Oper} {op : BinOp} {t t' : TypeId} {x y : Operand} {a b v : Value} (ho : o.op = .binOp op t x y t') (hx : (⟨tmps, ds⟩ : Act).eval x = a) (hy : (⟨tmps, ds⟩ : Act).eval y = b)
    (h : ∀ w', (binOp op t a b).run P w' = .ok v w' ∧ ∀ x y, eqGuard op t x y a b = pure ()) : YAll P o ⟨tmps, ds⟩ v := by
  intro w'
  unfold execOp
  simp only [ho, hx, hy]
  rw [(h w').2]
  simp [(h w').1]
end Go.Proofs.YtnldcpanpojeiaaGreatDoor
