/-
  Fields, slice expressions, components of tuples: what the reading says of each is what the program does.
-/
import Derived.Laws.Pointers
import Derived.Test.YtnldcpanpojeiaaGreatDoorEvRead
import Derived.WideLaws
namespace Go.Proofs.YtnldcpanpojeiaaGreatDoor
open Go.RowKit
variable {P : Program} {G : Ctx} {A : Ann} {B : Nat} {X : Lnt} {w0 w w' : World} {S S' : Nat → Prop} {ν : Nat → Value} {st st' : St} {tmps : Array Value} {ds : List Deferred}
theorem pair_free {P : Program} {f : Field} {r : List Field} {off : Nat} {a b : Ty} : fchk P (f :: r) off (.pair a b) = (f.offset == off && (P.info? f.type).any (fun i => i.size == a.size) && (aggOf P f.type == some a.isAgg) && (0 < a.size && !a.isPair) && fchk P r (off + a.size) b) := by
  cases r <;> rfl
theorem fchk_at : ∀ {p : Ty} {fs : List Field} {off k : Nat} {u : Ty}, fchk P fs off p = true → tyAt p (fieldPath p k) = some u →
    ∃ f, fs[k]? = some f ∧ f.offset = off + offAt p (fieldPath p k) ∧ (∃ i, P.info? f.type = some i ∧ i.size = u.size) ∧ aggOf P f.type = some u.isAgg ∧ 0 < u.size ∧ u.isPair = false := by
  have one : ∀ {p : Ty} {fs : List Field} {off k : Nat} {u : Ty}, (∀ a b, p ≠ .pair a b) → fchk P fs off p = true → tyAt p (fieldPath p k) = some u →
      ∃ f, fs[k]? = some f ∧ f.offset = off + offAt p (fieldPath p k) ∧ (∃ i, P.info? f.type = some i ∧ i.size = u.size) ∧ aggOf P f.type = some u.isAgg ∧ 0 < u.size ∧ u.isPair = false := by
    intro p fs off k u hp hf ht
    have hpath : fieldPath p k = if k = 0 then [] else [.left] := by
      cases p <;> first | exact absurd rfl (hp _ _) | (cases k <;> rfl)
    rw [hpath] at ht ⊢
    by_cases hk : k = 0
    · subst hk
      rw [if_pos rfl] at ht ⊢
      rw [tyAt_nil] at ht
      cases ht
      match fs, hf with
      | [f], hf =>
        have hf' : (f.offset == off && (P.info? f.type).any (fun i => i.size == p.size) && (aggOf P f.type == some p.isAgg) && (0 < p.size && !p.isPair)) = true := by
          cases p <;> first | exact absurd rfl (hp _ _) | exact hf
        simp only [Bool.and_eq_true, beq_iff_eq, decide_eq_true_eq, Bool.not_eq_true'] at hf'
        obtain ⟨⟨⟨h1, h2⟩, h3⟩, h4⟩ := hf'
        refine ⟨f, rfl, by rw [offAt_nil, h1]; rfl, ?_, h3, h4⟩
        cases hi : P.info? f.type with
        | none => rw [hi] at h2; cases h2
        | some i => rw [hi] at h2; exact ⟨i, rfl, by simpa using h2⟩
      | [], hf => cases p <;> first | exact absurd rfl (hp _ _) | cases hf
      | _ :: _ :: _, hf => cases p <;> first | exact absurd rfl (hp _ _) | cases hf
    · rw [if_neg hk] at ht
      cases p <;> first | exact absurd rfl (hp _ _) | cases ht
  intro p
  induction p with
  | pair a b _ ihb =>
    intro fs off k u hf ht
    match fs, hf with
    | f :: r, hf =>
      rw [pair_free] at hf
      simp only [Bool.and_eq_true, beq_iff_eq, decide_eq_true_eq, Bool.not_eq_true'] at hf
      obtain ⟨⟨⟨⟨h1, h2⟩, h3⟩, h4⟩, h5⟩ := hf
      cases k with
      | zero =>
        have ht' : tyAt a [] = some u := ht
        rw [tyAt_nil] at ht'
        cases ht'
        refine ⟨f, rfl, ?_, ?_, h3, h4⟩
        · show f.offset = off + offAt a []
          rw [offAt_nil, h1]; rfl
        · cases hi : P.info? f.type with
          | none => rw [hi] at h2; cases h2
          | some i => rw [hi] at h2; exact ⟨i, rfl, by simpa using h2⟩
      | succ k =>
        obtain ⟨g, k1, k2, k3⟩ := ihb (fs := r) (off := off + a.size) (k := k) h5 ht
        refine ⟨g, k1, ?_, k3⟩
        rw [k2]
        show off + a.size + offAt b (fieldPath b k) = off + (a.size + offAt b (fieldPath b k))
        omega
    | [], hf => cases hf
  | _ =>
    intro fs off k u hf ht
    exact one (by intro a b e; cases e) hf ht
theorem struct_field (hG : CtxOk P G) {t : TypeId} {p : Ty} (ht : olook t G.ty = some (.st p)) {k : Nat} {u : Ty} (hu : tyAt p (fieldPath p k) = some u) :
    ∃ fs f, P.underlying t = some (.struct fs) ∧ fs[k]? = some f ∧ f.offset = offAt p (fieldPath p k) ∧ (∃ i, P.info? f.type = some i ∧ i.size = u.size) ∧ aggOf P f.type = some u.isAgg ∧ 0 < u.size ∧ u.isPair = false := by
  obtain ⟨d, e1, c1⟩ := (hG.ty _ _ ht).desc
  cases d <;> simp only [dchk] at c1 <;> try contradiction
  rename_i fs
  obtain ⟨f, k1, k2, k3⟩ := fchk_at c1 hu
  exact ⟨fs, f, e1, by rw [← Array.getElem?_toList]; exact k1, by omega, k3⟩
theorem run_fieldAt {t : TypeId} {fs : Array Field} {k : Nat} {f : Field} {i : TypeInfo} (e1 : P.underlying t = some (.struct fs)) (e2 : fs[k]? = some f) (e3 : P.info? f.type = some i) (e4 : 0 < i.size) (ad : Addr) (w' : World) :
    (Instr.fieldAt t (.pointer (some ad)) k).run P w' = .ok (.pointer (some (ad.add f.offset))) w' := by
  have : i.size ≠ 0 := by omega
  simp [Instr.fieldAt, run_underlying e1, e2, Instr.sureAddr, fieldPlace, sizeOf, typeInfo, e3, this]
theorem offAt_append : ∀ {t : Ty} {p q : List Step} {u : Ty}, tyAt t p = some u → offAt t (p ++ q) = offAt t p + offAt u q ∧ tyAt t (p ++ q) = tyAt u q
  | t, [], q, u, h => by
    rw [tyAt_nil] at h; cases h
    rw [offAt_nil]
    simp
  | .st p, .enter :: r, q, u, h => offAt_append (t := p) (p := r) h
  | .pair a b, .left :: r, q, u, h => offAt_append (t := a) (p := r) h
  | .pair a b, .right :: r, q, u, h => by
    obtain ⟨h1, h2⟩ := offAt_append (t := b) (p := r) (q := q) h
    refine ⟨?_, h2⟩
    show a.size + offAt b (r ++ q) = a.size + offAt b r + offAt u q
    rw [h1]; omega
  | .arr n e, .at i :: r, q, u, h => by
    unfold tyAt at h
    split at h
    · rename_i hi
      obtain ⟨h1, h2⟩ := offAt_append (t := e) (p := r) (q := q) h
      refine ⟨?_, ?_⟩
      · show i.toNat * e.size + offAt e (r ++ q) = i.toNat * e.size + offAt e r + offAt u q
        rw [h1]; omega
      · show (if 0 ≤ i ∧ i.toNat < n then tyAt e (r ++ q) else none) = _
        rw [if_pos hi]; exact h2
    · cases h
  | .int _, .enter :: _, _, _, h => by cases h
  | .int _, .left :: _, _, _, h => by cases h
  | .int _, .right :: _, _, _, h => by cases h
  | .int _, .at _ :: _, _, _, h => by cases h
  | .bool, .enter :: _, _, _, h => by cases h
  | .bool, .left :: _, _, _, h => by cases h
  | .bool, .right :: _, _, _, h => by cases h
  | .bool, .at _ :: _, _, _, h => by cases h
  | .str, .enter :: _, _, _, h => by cases h
  | .str, .left :: _, _, _, h => by cases h
  | .str, .right :: _, _, _, h => by cases h
  | .str, .at _ :: _, _, _, h => by cases h
  | .err _ _, .enter :: _, _, _, h => by cases h
  | .err _ _, .left :: _, _, _, h => by cases h
  | .err _ _, .right :: _, _, _, h => by cases h
  | .err _ _, .at _ :: _, _, _, h => by cases h
  | .eno _, .enter :: _, _, _, h => by cases h
  | .eno _, .left :: _, _, _, h => by cases h
  | .eno _, .right :: _, _, _, h => by cases h
  | .eno _, .at _ :: _, _, _, h => by cases h
  | .arr _ _, .enter :: _, _, _, h => by cases h
  | .arr _ _, .left :: _, _, _, h => by cases h
  | .arr _ _, .right :: _, _, _, h => by cases h
  | .sl _, .enter :: _, _, _, h => by cases h
  | .sl _, .left :: _, _, _, h => by cases h
  | .sl _, .right :: _, _, _, h => by cases h
  | .sl _, .at _ :: _, _, _, h => by cases h
  | .ptr _, .enter :: _, _, _, h => by cases h
  | .fn _ _, .enter :: _, _, _, h => by cases h
  | .hole, .enter :: _, _, _, h => by cases h
  | .ptr _, .left :: _, _, _, h => by cases h
  | .fn _ _, .left :: _, _, _, h => by cases h
  | .hole, .left :: _, _, _, h => by cases h
  | .ptr _, .right :: _, _, _, h => by cases h
  | .fn _ _, .right :: _, _, _, h => by cases h
  | .hole, .right :: _, _, _, h => by cases h
  | .ptr _, .at _ :: _, _, _, h => by cases h
  | .fn _ _, .at _ :: _, _, _, h => by cases h
  | .hole, .at _ :: _, _, _, h => by cases h
  | .st _, .left :: _, _, _, h => by cases h
  | .st _, .right :: _, _, _, h => by cases h
  | .st _, .at _ :: _, _, _, h => by cases h
  | .pair _ _, .enter :: _, _, _, h => by cases h
  | .pair _ _, .at _ :: _, _, _, h => by cases h
theorem getAt_append : ∀ {t : Ty} {p q : List Step} {x : t.I} {u : Ty} {y : u.I}, getAt t p x = some ⟨u, y⟩ → getAt t (p ++ q) x = getAt u q y
  | t, [], q, x, u, y, h => by rw [getAt_nil] at h; cases h; rfl
  | .st p, .enter :: r, q, x, u, y, h => getAt_append (t := p) (p := r) h
  | .pair a b, .left :: r, q, x, u, y, h => getAt_append (t := a) (p := r) h
  | .pair a b, .right :: r, q, x, u, y, h => getAt_append (t := b) (p := r) h
  | .arr n e, .at i :: r, q, x, u, y, h => by
    unfold getAt at h
    split at h
    · rename_i z hz
      show (match idx x i with | some y => getAt e (r ++ q) y | none => none) = _
      rw [hz]
      exact getAt_append (t := e) (p := r) h
    · cases h
  | .int _, .enter :: _, _, _, _, _, h => by cases h
  | .int _, .left :: _, _, _, _, _, h => by cases h
  | .int _, .right :: _, _, _, _, _, h => by cases h
  | .int _, .at _ :: _, _, _, _, _, h => by cases h
  | .bool, .enter :: _, _, _, _, _, h => by cases h
  | .bool, .left :: _, _, _, _, _, h => by cases h
  | .bool, .right :: _, _, _, _, _, h => by cases h
  | .bool, .at _ :: _, _, _, _, _, h => by cases h
  | .str, .enter :: _, _, _, _, _, h => by cases h
  | .str, .left :: _, _, _, _, _, h => by cases h
  | .str, .right :: _, _, _, _, _, h => by cases h
  | .str, .at _ :: _, _, _, _, _, h => by cases h
  | .err _ _, .enter :: _, _, _, _, _, h => by cases h
  | .err _ _, .left :: _, _, _, _, _, h => by cases h
  | .err _ _, .right :: _, _, _, _, _, h => by cases h
  | .err _ _, .at _ :: _, _, _, _, _, h => by cases h
  | .eno _, .enter :: _, _, _, _, _, h => by cases h
  | .eno _, .left :: _, _, _, _, _, h => by cases h
  | .eno _, .right :: _, _, _, _, _, h => by cases h
  | .eno _, .at _ :: _, _, _, _, _, h => by cases h
  | .arr _ _, .enter :: _, _, _, _, _, h => by cases h
  | .arr _ _, .left :: _, _, _, _, _, h => by cases h
  | .arr _ _, .right :: _, _, _, _, _, h => by cases h
  | .sl _, .enter :: _, _, _, _, _, h => by cases h
  | .sl _, .left :: _, _, _, _, _, h => by cases h
  | .sl _, .right :: _, _, _, _, _, h => by cases h
  | .sl _, .at _ :: _, _, _, _, _, h => by cases h
  | .ptr _, .enter :: _, _, _, _, _, h => by cases h
  | .fn _ _, .enter :: _, _, _, _, _, h => by cases h
  | .hole, .enter :: _, _, _, _, _, h => by cases h
  | .ptr _, .left :: _, _, _, _, _, h => by cases h
  | .fn _ _, .left :: _, _, _, _, _, h => by cases h
  | .hole, .left :: _, _, _, _, _, h => by cases h
  | .ptr _, .right :: _, _, _, _, _, h => by cases h
  | .fn _ _, .right :: _, _, _, _, _, h => by cases h
  | .hole, .right :: _, _, _, _, _, h => by cases h
  | .ptr _, .at _ :: _, _, _, _, _, h => by cases h
  | .fn _ _, .at _ :: _, _, _, _, _, h => by cases h
  | .hole, .at _ :: _, _, _, _, _, h => by cases h
  | .st _, .left :: _, _, _, _, _, h => by cases h
  | .st _, .right :: _, _, _, _, _, h => by cases h
  | .st _, .at _ :: _, _, _, _, _, h => by cases h
  | .pair _ _, .enter :: _, _, _, _, _, h => by cases h
  | .pair _ _, .at _ :: _, _, _, _, _, h => by cases h
theorem cast_val {t u : Ty} {x : t.I} {y : u.I} (h : Ty.cast t u x = some y) : (⟨t, x⟩ : Dat) = ⟨u, y⟩ := by
  have e := (cast_self h).symm
  subst e
  unfold Ty.cast at h
  simp at h
  rw [h]
theorem holeT_size : ∀ t : Ty, (holeT t).size = t.size
  | .int _ => rfl
  | .bool => rfl
  | .str => rfl
  | .err _ _ => rfl
  | .eno _ => rfl
  | .arr _ _ => rfl
  | .sl _ => rfl
  | .st p => holeT_size p
  | .ptr _ => rfl
  | .fn _ _ => rfl
  | .pair a b => by
    show (holeT a).size + (holeT b).size = a.size + b.size
    rw [holeT_size a, holeT_size b]
  | .hole => rfl
theorem fieldPath_hole : ∀ (p : Ty) (k : Nat), fieldPath (holeT p) k = fieldPath p k
  | .pair a b, 0 => rfl
  | .pair a b, k + 1 => by
    show Step.right :: fieldPath (holeT b) k = Step.right :: fieldPath b k
    rw [fieldPath_hole b k]
  | .int _, 0 => rfl
  | .int _, _ + 1 => rfl
  | .bool, 0 => rfl
  | .bool, _ + 1 => rfl
  | .str, 0 => rfl
  | .str, _ + 1 => rfl
  | .err _ _, 0 => rfl
  | .err _ _, _ + 1 => rfl
  | .eno _, 0 => rfl
  | .eno _, _ + 1 => rfl
  | .arr _ _, 0 => rfl
  | .arr _ _, _ + 1 => rfl
  | .sl _, 0 => rfl
  | .sl _, _ + 1 => rfl
  | .st _, 0 => rfl
  | .st _, _ + 1 => rfl
  | .ptr _, 0 => rfl
  | .fn _ _, 0 => rfl
  | .ptr _, _ + 1 => rfl
  | .fn _ _, _ + 1 => rfl
  | .hole, 0 => rfl
  | .hole, _ + 1 => rfl
theorem tyAt_field : ∀ (p : Ty) (k : Nat) (u : Ty), tyAt (holeT p) (fieldPath p k) = some u → ∃ u', tyAt p (fieldPath p k) = some u' ∧ u'.size = u.size ∧ offAt (holeT p) (fieldPath p k) = offAt p (fieldPath p k)
  | .pair a b, 0, u, h => by
    have h : tyAt (holeT a) [] = some u := h
    rw [tyAt_nil] at h
    cases h
    refine ⟨a, by show tyAt a [] = some a; exact tyAt_nil a, (holeT_size a).symm, ?_⟩
    show offAt (holeT a) [] = offAt a []
    rw [offAt_nil, offAt_nil]
  | .pair a b, k + 1, u, h => by
    obtain ⟨u', h1, h2, h3⟩ := tyAt_field b k u h
    refine ⟨u', h1, h2, ?_⟩
    show (holeT a).size + offAt (holeT b) (fieldPath b k) = a.size + offAt b (fieldPath b k)
    rw [holeT_size, h3]
  | .int _, 0, u, h => by cases h; exact ⟨_, rfl, rfl, rfl⟩
  | .int _, _ + 1, u, h => by cases h
  | .bool, 0, u, h => by cases h; exact ⟨_, rfl, rfl, rfl⟩
  | .bool, _ + 1, u, h => by cases h
  | .str, 0, u, h => by cases h; exact ⟨_, rfl, rfl, rfl⟩
  | .str, _ + 1, u, h => by cases h
  | .err _ _, 0, u, h => by cases h; exact ⟨_, rfl, rfl, rfl⟩
  | .err _ _, _ + 1, u, h => by cases h
  | .eno _, 0, u, h => by cases h; exact ⟨_, rfl, rfl, rfl⟩
  | .eno _, _ + 1, u, h => by cases h
  | .arr _ _, 0, u, h => by cases h; exact ⟨_, rfl, rfl, rfl⟩
  | .arr _ _, _ + 1, u, h => by cases h
  | .sl _, 0, u, h => by cases h; exact ⟨_, rfl, rfl, rfl⟩
  | .sl _, _ + 1, u, h => by cases h
  | .st p, 0, u, h => by
    have h : some (holeT (.st p)) = some u := h
    cases h
    exact ⟨_, rfl, (holeT_size (.st p)).symm, rfl⟩
  | .st _, _ + 1, u, h => by cases h
  | .ptr _, 0, u, h => by cases h; exact ⟨_, rfl, rfl, rfl⟩
  | .fn _ _, 0, u, h => by cases h; exact ⟨_, rfl, rfl, rfl⟩
  | .ptr _, _ + 1, u, h => by cases h
  | .fn _ _, _ + 1, u, h => by cases h
  | .hole, 0, u, h => by cases h; exact ⟨_, rfl, rfl, rfl⟩
  | .hole, _ + 1, u, h => by cases h
theorem field_hole {p q u : Ty} {k : Nat} (e : p = q ∨ p = holeT q) (hu : tyAt (.st p) (.enter :: fieldPath p k) = some u) : ∃ u', tyAt q (fieldPath q k) = some u' ∧ offAt q (fieldPath q k) = offAt p (fieldPath p k) := by
  have hu : tyAt p (fieldPath p k) = some u := hu
  rcases e with e | e
  · subst e
    exact ⟨u, hu, rfl⟩
  · subst e
    rw [fieldPath_hole] at hu
    obtain ⟨u', m1, _, m3⟩ := tyAt_field q k u hu
    exact ⟨u', m1, by rw [fieldPath_hole, m3]⟩
theorem evField_ok (hG : CtxOk P G) (h : Inv B X w0 S ν st tmps w) {o : Oper} {t : TypeId} {x : Operand} {k : Nat} (ho : o.op = .fieldAddr t x k) (hr : (evField G st o.dst t x k).run = some st') : AllOk P B X w0 S ν o tmps ds w st' := by
  have key : ∀ {p u : Ty} {ad : Addr}, olook t G.ty = some (.st p) → tyAt p (fieldPath p k) = some u → (⟨tmps, ds⟩ : Act).eval x = .pointer (some ad) →
      YAll P o ⟨tmps, ds⟩ (.pointer (some (ad.add (offAt p (fieldPath p k))))) := by
    intro p u ad ht hu he w'
    obtain ⟨fs, f, e1, e2, e3, ⟨i, e4, e5⟩, _, e6, _⟩ := struct_field hG ht hu
    simp only [execOp, ho, he]
    simp [run_fieldAt e1 e2 e4 (by omega), e3]
  unfold evField at hr
  split at hr
  · rename_i q fr p v ht hx
    split at hr
    · rename_i e
      subst e
      split at hr
      · rename_i u y hy
        cases hr
        have hs : Slot1Rd B X w S ν st.objs (.cptr fr (.st p) v) _ := opd_ok (ds := ds) h hx
        obtain ⟨ad, e1, hS, hl, us, h4, h5⟩ := hs
        obtain ⟨k1, vs, k2, k3⟩ := h4.at_ hy
        have k1' : tyAt p (fieldPath p k) = some u := k1
        exact all_put h (key ht k1' e1) (show Slot1Rd B X w S ν st.objs (.cptr fr u y) _ from ⟨_, rfl, by rw [add_block]; exact hS, by rw [add_block]; exact hl, vs, k2, fun i z hz => by rw [add_add]; exact h5 _ _ (k3 i z hz)⟩)
      · cases hr
    · cases hr
  · rename_i q tag i path p snap ht hx
    split at hr
    · rename_i e
      split at hr
      · rename_i u hu
        cases hr
        have hs : Slot1Rd B X w S ν st.objs (.eptr tag i path (.st p) snap) _ := opd_ok (ds := ds) h hx
        obtain ⟨o1, b, n, cap, el, h1, h2, h3, h4, h5, h6, h7⟩ := hs
        obtain ⟨a1, a2⟩ := offAt_append (q := .enter :: fieldPath p k) h6
        obtain ⟨u', hu', hof⟩ := field_hole e hu
        refine all_put h (key ht hu' h4) (show Slot1Rd B X w S ν st.objs (.eptr tag i _ u _) _ from ⟨o1, b, n, cap, el, h1, h2, h3, ?_, h5, a2.trans hu, fun z hz => ?_⟩)
        · rw [addr_add, a1, hof]
          congr 3
          show _ + offAt p (fieldPath p k) = _ + (_ + offAt p (fieldPath p k))
          omega
        · split at hz
          · rename_i v
            split at hz
            · rename_i u' y hy
              rw [getAt_append (h7 v rfl), hy, cast_val hz]
            · cases hz
          · cases hz
      · cases hr
    · cases hr
  · rename_i q i e path p ht hx
    split at hr
    · rename_i heq
      split at hr
      · rename_i u hu
        cases hr
        have hs : Slot1Rd B X w S ν st.objs (.leptr i e path (.st p)) _ := opd_ok (ds := ds) h hx
        obtain ⟨b, n, cap, h1, h2, h3, h4⟩ := hs
        obtain ⟨a1, a2⟩ := offAt_append (q := .enter :: fieldPath p k) h4
        obtain ⟨u', hu', hof⟩ := field_hole heq hu
        refine all_put h (key ht hu' h3) (show Slot1Rd B X w S ν st.objs (.leptr i e _ u) _ from ⟨b, n, cap, h1, h2, ?_, a2.trans hu⟩)
        rw [addr_add, a1, hof]
        congr 3
        show _ + offAt p (fieldPath p k) = _ + (_ + (_ + offAt p (fieldPath p k)))
        omega
      · cases hr
    · cases hr
  · cases hr
theorem run_part {t : TypeId} {i : TypeInfo} {u : Ty} {cs vs : List Value} {off : Nat} (e4 : P.info? t = some i) (e5 : i.size = u.size) (e6 : aggOf P t = some u.isAgg) (e8 : u.isPair = false)
    (hl : vs.length = u.size) (hoff : ∀ i z, vs[i]? = some z → cs[off + i]? = some z) : (part t cs.toArray off).run P w' = .ok (mkV u vs) w' := by
  have hagg : (isAgg t).run P w' = .ok u.isAgg w' := by
    unfold isAgg
    unfold aggOf at e6
    cases hu : P.underlying t with
    | none => rw [hu] at e6; cases e6
    | some d => rw [hu] at e6; cases d <;> simp_all [run_underlying hu]
  unfold part
  cases u with
  | st p =>
    simp only [Ty.isAgg] at hagg
    simp only [Ty.size] at *
    have : List.take i.size (List.drop off cs) = vs := by
      apply List.ext_getElem?
      intro j
      rw [List.getElem?_take]
      by_cases hj : j < p.size
      · rw [if_pos (by omega), List.getElem?_drop]
        rw [hoff j _ (List.getElem?_eq_getElem (by omega)), List.getElem?_eq_getElem (by omega)]
      · rw [if_neg (by omega), List.getElem?_eq_none (by omega)]
    simp [hagg, sizeOf, typeInfo, e4, this, mkV]
  | arr n e =>
    simp only [Ty.isAgg] at hagg
    simp only [Ty.size] at *
    have : List.take i.size (List.drop off cs) = vs := by
      apply List.ext_getElem?
      intro j
      rw [List.getElem?_take]
      by_cases hj : j < n * e.size
      · rw [if_pos (by omega), List.getElem?_drop]
        rw [hoff j _ (List.getElem?_eq_getElem (by omega)), List.getElem?_eq_getElem (by omega)]
      · rw [if_neg (by omega), List.getElem?_eq_none (by omega)]
    simp [hagg, sizeOf, typeInfo, e4, this, mkV]
  | pair a b => cases e8
  | _ =>
    obtain ⟨z, rfl⟩ := one_cell hl rfl
    have h0 : cs[off]? = some z := by simpa using hoff 0 z rfl
    simp only [Ty.isAgg] at hagg
    simp [hagg, h0, mkV]
theorem evPart_ok (hG : CtxOk P G) (h : Inv B X w0 S ν st tmps w) {o : Oper} {t : TypeId} {x : Operand} {k : Nat} (ho : o.op = .field t x k) (hr : (evPart G st o.dst t x k).run = some st') : AllOk P B X w0 S ν o tmps ds w st' := by
  unfold evPart at hr
  split at hr
  · rename_i q fr p v ht hx
    split at hr
    · rename_i e
      subst e
      split at hr
      · rename_i u y hy
        cases hr
        have hs : RdV w (Av S B fr) (.st p) v _ := opd_ok (ds := ds) h hx
        obtain ⟨cs, h4, h5⟩ := hs
        obtain ⟨k1, vs, k2, k3⟩ := h4.at_ hy
        have k1' : tyAt p (fieldPath p k) = some u := k1
        obtain ⟨fs, f, e1, e2, e3, ⟨i, e4, e5⟩, e6, e7, e8⟩ := struct_field hG ht k1'
        refine all_put h (v := mkV u vs) (fun w' => ?_) ⟨vs, k2, rfl⟩
        have hl := k2.len
        have hoff : ∀ i z, vs[i]? = some z → cs[f.offset + i]? = some z := fun i z hz => by rw [e3]; exact k3 i z hz
        have hpart := run_part (w' := w') e4 e5 e6 e8 hl hoff
        have h5' : (⟨tmps, ds⟩ : Act).eval x = .agg cs.toArray := h5
        simp only [execOp, ho, h5']
        simp [Instr.field, run_underlying e1, e2, asAgg, hpart]
      · cases hr
    · cases hr
  · cases hr
theorem cut_some {α : Type} {xs ys : List α} {l h : Int} (e : cut xs l h = some ys) : 0 ≤ l ∧ l ≤ h ∧ h ≤ xs.length ∧ ys = (xs.take h.toNat).drop l.toNat := by
  unfold cut at e
  split at e
  · rename_i hc; cases e; exact ⟨hc.1, hc.2.1, hc.2.2, rfl⟩
  · cases e
theorem cut_get {α : Type} {xs : List α} {l h : Int} (_h1 : l ≤ h) (_h0 : 0 ≤ l) {j : Nat} {x : α} (hj : ((xs.take h.toNat).drop l.toNat)[j]? = some x) : xs[l.toNat + j]? = some x := by
  rw [List.getElem?_drop, List.getElem?_take] at hj
  split at hj
  · exact hj
  · cases hj
def bound (o : Option Value) (l d : Int) : Prop := (o = none ∧ l = d) ∨ ∃ k, o = some (.int k l)
theorem run_sliceAt {t e : TypeId} {i : TypeInfo} (ht : P.underlying t = some (.slice e)) (hi : P.info? e = some i) {A : Option Addr} {len cap : Nat} {lo hi' : Option Value} {l h : Int} (h1 : bound lo l 0) (h2 : bound hi' h len)
    (h3 : 0 ≤ l) (h4 : l ≤ h) (h5 : h ≤ len) (h6 : len ≤ cap) (w' : World) :
    (Instr.sliceAt t (.slice A len cap) lo hi' none).run P w' = .ok (.slice (if cap = l.toNat then A else A.map (·.add (l.toNat * i.size))) (h.toNat - l.toNat) (cap - l.toNat)) w' := by
  have hb : (Instr.sliceBounds true len cap lo hi' none).run P w' = .ok (l.toNat, h.toNat, cap) w' := by
    have c1 : h ≤ (cap : Int) := by omega
    have c2 : l ≤ (len : Int) := by omega
    have c3 : 0 ≤ h := by omega
    have c4 : (h.toNat : Int) = h := Int.toNat_of_nonneg c3
    rcases h1 with ⟨rfl, rfl⟩ | ⟨k, rfl⟩ <;> rcases h2 with ⟨rfl, rfl⟩ | ⟨k', rfl⟩ <;> simp [Instr.sliceBounds, run_sliceBound, c1, c2, c3, c4, h3, h4]
  simp only [Instr.sliceAt, Sem.run_bind, run_underlying ht, Result.andThen, Instr.slice]
  simp [hb, sizeOf, typeInfo, hi]
theorem low_bound (h : Inv B X w0 S ν st tmps w) {lo : Option Operand} {l : Int} (hl : lowOf st lo = some l) : bound (lo.map (⟨tmps, ds⟩ : Act).eval) l 0 := by
  unfold lowOf at hl
  split at hl
  · cases hl; exact .inl ⟨rfl, rfl⟩
  · split at hl
    · rename_i hx
      cases hl
      exact .inr ⟨_, congrArg some (val_int (opd_ok (ds := ds) h hx))⟩
    · cases hl
theorem high_bound (h : Inv B X w0 S ν st tmps w) {hi : Option Operand} {len l : Int} (hl : highOf st len hi = some l) : bound (hi.map (⟨tmps, ds⟩ : Act).eval) l len := by
  unfold highOf at hl
  split at hl
  · cases hl; exact .inl ⟨rfl, rfl⟩
  · split at hl
    · rename_i hx
      cases hl
      exact .inr ⟨_, congrArg some (val_int (opd_ok (ds := ds) h hx))⟩
    · cases hl
theorem cut_val {S1 : Nat → Prop} {e : Ty} {xs ys : List e.I} {v : Value} (hv : RdV w S1 (.sl e) xs v) {l h : Int} (hc : cut xs l h = some ys) {A : Option Addr} {cap : Nat} (he : v = .slice A xs.length cap) :
    RdV w S1 (.sl e) ys (.slice (if cap = l.toNat then A else A.map (·.add (l.toNat * e.size))) (h.toNat - l.toNat) (cap - l.toNat)) := by
  obtain ⟨h1, h2, h3, rfl⟩ := cut_some hc
  obtain ⟨A', cap', e1, e2, ez, e3⟩ := val_slice hv
  rw [he] at e1
  injection e1 with e4 e5 e6
  subst e4
  subst e6
  have hlen : ((xs.take h.toNat).drop l.toNat).length = h.toNat - l.toNat := by
    rw [List.length_drop, List.length_take]; omega
  refine ⟨[_], ?_, rfl⟩
  unfold Rd
  refine ⟨_, _, by rw [hlen], by rw [hlen]; omega, fun hn => ?_, fun j x hj => ?_⟩
  · split at hn
    · rename_i e; omega
    · cases A with
      | none => have := ez rfl; omega
      | some a => cases hn
  clear ez
  have hx := cut_get h2 h1 hj
  obtain ⟨ad, rfl, k1, k2, us, k3, k4⟩ := e3 _ _ hx
  have hj' : j < h.toNat - l.toNat := by
    rcases Nat.lt_or_ge j (h.toNat - l.toNat) with h' | h'
    · exact h'
    · rw [List.getElem?_eq_none (by rw [hlen]; exact h')] at hj; cases hj
  rw [if_neg (by omega)]
  refine ⟨_, rfl, by rw [add_block]; exact k1, by rw [add_block]; exact k2, us, k3, fun i u hu => ?_⟩
  rw [add_add, show l.toNat * e.size + (j * e.size + i) = (l.toNat + j) * e.size + i from by rw [Nat.add_mul]; omega]
  exact k4 i u hu
theorem win_cut {A : Option Addr} {len cap : Nat} {l h : Int} {size : Nat} (hA : ∀ ad, A = some ad → ad.spot = none) (hz : A = none → cap = 0) (c1 : 0 ≤ l) (c2 : l ≤ h) (c3 : h ≤ len) (hc : len ≤ cap) :
    WinVal (.slice A len cap) size l.toNat (h.toNat - l.toNat) (.slice (if cap = l.toNat then A else A.map (·.add (l.toNat * size))) (h.toNat - l.toNat) (cap - l.toNat)) := by
  cases A with
  | none =>
    have h0 := hz rfl
    have h1 : len = 0 := by omega
    have h2 : l.toNat = 0 := by omega
    have h3 : h.toNat = 0 := by omega
    subst h0
    subst h1
    rw [h2, h3]
    exact .inl ⟨rfl, by simp, rfl, rfl⟩
  | some ad =>
    obtain ⟨b, k, sp⟩ := ad
    have : sp = none := hA _ rfl
    subst this
    by_cases e : cap = l.toNat
    · rw [if_pos e]
      exact .inr ⟨b, k, len, cap, k, _, rfl, rfl, by omega, by omega, .inr ⟨by omega, rfl⟩⟩
    · rw [if_neg e]
      exact .inr ⟨b, k, len, cap, k + l.toNat * size, _, rfl, by rw [Option.map_some, addr_add], by omega, by omega, .inl rfl⟩
theorem evSlice_val (hG : CtxOk P G) (h : Inv B X w0 S ν st tmps w) {o : Oper} {t : TypeId} {x : Operand} {lo hi : Option Operand} (ho : o.op = .slice t x lo hi none) {g : SlInfo} (hg : olook t G.sls = some g) {l' h' : Int}
    {S1 : Nat → Prop} {xs ys : List g.e.I} (hv : RdV w S1 (.sl g.e) xs ((⟨tmps, ds⟩ : Act).eval x)) (hl : lowOf st lo = some l') (hh : highOf st xs.length hi = some h') (hc : cut xs l' h' = some ys) :
    ∃ v, (∀ w' : World, (execOp (⟨tmps, ds⟩ : Act).eval o).run P w' = .ok (.value v) w') ∧ RdV w S1 (.sl g.e) ys v ∧
      ((∀ ad n c, (⟨tmps, ds⟩ : Act).eval x = .slice (some ad) n c → ad.spot = none) → WinVal ((⟨tmps, ds⟩ : Act).eval x) g.e.size l'.toNat ys.length v) := by
  obtain ⟨A, cap, e1, e2, hz, _⟩ := val_slice hv
  obtain ⟨i, k1, k2, _⟩ := (hG.sl _ _ hg).ty.info
  obtain ⟨c1, c2, c3, c4⟩ := cut_some hc
  have hb := low_bound (ds := ds) h hl
  have hb' := high_bound (ds := ds) h hh
  refine ⟨_, fun w' => ?_, cut_val hv hc e1, fun hA => ?_⟩
  · simp only [execOp, ho, e1]
    simp [run_sliceAt (hG.sl _ _ hg).und k1 hb hb' c1 c2 c3 e2, k2]
  · have hyl : ys.length = h'.toNat - l'.toNat := by rw [c4, List.length_drop, List.length_take]; omega
    rw [e1, hyl]
    exact win_cut (fun ad ha => hA ad _ _ (by rw [e1, ha])) hz c1 c2 c3 e2
theorem evExtract_ok (h : Inv B X w0 S ν st tmps w) {o : Oper} {t i : Nat} (ho : o.op = .extract (.tmp t) i) {ss : List Slot} {s : Slot} (ht : st.get t = .tup ss) (hs : ss[i]? = some s) (hn : ∀ ss, s ≠ .tup ss) : AllOk P B X w0 S ν o tmps ds w (st.put o.dst s) := by
  obtain ⟨v, hv, hs'⟩ := h.get t
  rw [ht] at hs'
  obtain ⟨vs, e1, e2, e3⟩ := hs'
  obtain ⟨u, e4, e5⟩ := e3 i s hs
  refine all_put h (v := u) (fun w' => ?_) (SlotRd.of1 e5 hn)
  have : (⟨tmps, ds⟩ : Act).eval (.tmp t) = .tuple vs := hv.trans e1
  simp only [execOp, ho, this]
  simp [Instr.extract, e4]
theorem bools_val {s : Slot} {b : Bool} {v : Value} (h : Slot1Rd B X w S ν st.objs s v) (hb : bools s = some b) : v = .bool b := by
  unfold bools at hb
  split at hb
  · cases hb; exact h
  · cases hb; exact val_bool h
  · cases hb
theorem scal_one {t : TypeId} {u : Ty} (h : scal P t u = true) {x y : u.I} {S1 S2 : Nat → Prop} {us vs : List Value} (hx : Rd w S1 u x us) (hy : Rd w S2 u y vs) (d : Nat) (w' : World) :
    ∃ a b, us = [a] ∧ vs = [b] ∧ (∀ cs : Array Value, ∀ off v, cs[off]? = some v → (part t cs off).run P w' = .ok v w') ∧ (Op.equalIn (d + 1) t a b).run P w' = .ok (eqD u x y) w' := by
  cases u <;> simp only [scal] at h <;> try contradiction
  · rename_i k
    split at h
    · rename_i k' hk
      simp only [decide_eq_true_eq] at h
      subst h
      unfold Rd at hx hy
      subst hx
      subst hy
      refine ⟨_, _, rfl, rfl, fun cs off v hv => ?_, ?_⟩
      · simp [part, isAgg, run_underlying hk, hv]
      · rw [run_equalIn_int w' d t _ _ _ _ hk]; rfl
    · cases h
  · split at h
    · rename_i hk
      unfold Rd at hx hy
      subst hx
      subst hy
      refine ⟨_, _, rfl, rfl, fun cs off v hv => ?_, ?_⟩
      · simp [part, isAgg, run_underlying hk, hv]
      · rw [run_equalIn_bool' w' d t _ _ hk]; rfl
    · cases h
theorem eq_fields (d : Nat) (w' : World) {S1 S2 : Nat → Prop} {xs ys : Array Value} : ∀ {fs : List Field} {off : Nat} {p : Ty} {x y : p.I} {us vs : List Value}, qchk P fs off p = true → Rd w S1 p x us → Rd w S2 p y vs →
    (∀ i u, us[i]? = some u → xs[off + i]? = some u) → (∀ i u, vs[i]? = some u → ys[off + i]? = some u) → (Op.eqFields (d + 1) xs ys fs).run P w' = .ok (eqD p x y) w' := by
  have one : ∀ {f : Field} {off : Nat} {u : Ty} {x y : u.I} {us vs : List Value} {r : List Field}, (f.name != "_" && f.offset == off && scal P f.type u) = true → Rd w S1 u x us → Rd w S2 u y vs →
      (∀ i z, us[i]? = some z → xs[off + i]? = some z) → (∀ i z, vs[i]? = some z → ys[off + i]? = some z) →
      (Op.eqFields (d + 1) xs ys (f :: r)).run P w' = if eqD u x y = true then (Op.eqFields (d + 1) xs ys r).run P w' else .ok false w' := by
    intro f off u x y us vs r hq hx hy h1 h2
    simp only [Bool.and_eq_true, bne_iff_ne, ne_eq, beq_iff_eq] at hq
    obtain ⟨⟨q1, q2⟩, q3⟩ := hq
    obtain ⟨a, b, rfl, rfl, hp, he⟩ := scal_one q3 hx hy d w'
    have g1 := hp xs f.offset a (by rw [q2]; simpa using h1 0 a rfl)
    have g2 := hp ys f.offset b (by rw [q2]; simpa using h2 0 b rfl)
    simp only [Op.eqFields]
    rw [if_pos q1]
    simp only [Sem.run_bind, g1, g2, he, Result.andThen_ok]
    cases eqD u x y <;> simp
  intro fs
  induction fs with
  | nil => intro off p x y us vs hq; cases p <;> simp [qchk] at hq
  | cons f r ih =>
    intro off p x y us vs hq hx hy h1 h2
    have last : ∀ (hp : ∀ a b, p ≠ .pair a b) , (r = [] ∧ (f.name != "_" && f.offset == off && scal P f.type p) = true) := by
      intro hp
      cases r with
      | nil =>
        refine ⟨rfl, ?_⟩
        cases p <;> first | exact absurd rfl (hp _ _) | exact hq
      | cons g r => cases p <;> first | exact absurd rfl (hp _ _) | (simp [qchk] at hq)
    cases p with
    | pair a b =>
      simp only [qchk, Bool.and_eq_true] at hq
      unfold Rd at hx hy
      obtain ⟨c1, c2, rfl, x1, x2⟩ := hx
      obtain ⟨e1, e2, rfl, y1, y2⟩ := hy
      have hq1 : (f.name != "_" && f.offset == off && scal P f.type a) = true := by simp only [Bool.and_eq_true]; exact hq.1
      obtain ⟨u1, u2, rfl, rfl, _, _⟩ := scal_one hq.1.2 x1 y1 d w'
      rw [one hq1 x1 y1 (fun i z hz => h1 i z (by cases i with | zero => simpa using hz | succ i => simp at hz)) (fun i z hz => h2 i z (by cases i with | zero => simpa using hz | succ i => simp at hz))]
      rw [ih hq.2 x2 y2 (fun i z hz => by rw [Nat.add_assoc, Nat.add_comm 1 i]; exact h1 (i + 1) z (by simpa using hz)) (fun i z hz => by rw [Nat.add_assoc, Nat.add_comm 1 i]; exact h2 (i + 1) z (by simpa using hz))]
      show _ = Result.ok (eqD a x.1 y.1 && eqD b x.2 y.2) w'
      cases eqD a x.1 y.1 <;> simp
    | _ =>
      obtain ⟨rfl, hq1⟩ := last (fun a b e => by cases e)
      rw [one hq1 hx hy h1 h2]
      simp only [Op.eqFields, Sem.run_pure]
      split
      · rename_i e; rw [e]
      · rename_i e; rw [Bool.not_eq_true] at e; rw [e]
theorem yields_eq (hG : CtxOk P G) {o : Oper} {op : BinOp} {t t' : TypeId} {x y : Operand} {p : Ty} {a b : p.I} (ho : o.op = .binOp op t x y t') (ht : olook t G.eqs = some p) {S1 S2 : Nat → Prop}
    (hx : RdV w S1 (.st p) a ((⟨tmps, ds⟩ : Act).eval x)) (hy : RdV w S2 (.st p) b ((⟨tmps, ds⟩ : Act).eval y)) {c : Bool} (hc : (op = .eql ∧ c = eqD p a b) ∨ (op = .neq ∧ c = !(eqD p a b))) : YAll P o ⟨tmps, ds⟩ (.bool c) := by
  obtain ⟨us, hx1, hx2⟩ := hx
  obtain ⟨vs, hy1, hy2⟩ := hy
  have hq := hG.eq _ _ ht
  have hx2' : (⟨tmps, ds⟩ : Act).eval x = .agg us.toArray := hx2
  have hy2' : (⟨tmps, ds⟩ : Act).eval y = .agg vs.toArray := hy2
  intro w'
  have he : (Op.equalIn 10000 t (.agg us.toArray) (.agg vs.toArray)).run P w' = .ok (eqD p a b) w' := by
    rw [run_equalIn_agg w' 9999 t _ _ hq.und hq.held]
    exact eq_fields 9998 w' hq.fields hx1 hy1 (fun i u hi => by simpa using hi) (fun i u hi => by simpa using hi)
  have hg := run_eqGuard_agg w' op t x y us.toArray vs.toArray hq.guard
  unfold execOp
  simp only [ho, hx2', hy2']
  rcases hc with ⟨rfl, rfl⟩ | ⟨rfl, rfl⟩
  · simp [hg, run_eql_struct, he]
  · simp [hg, run_neq_struct, he]
theorem evBin_ok (hG : CtxOk P G) (h : Inv B X w0 S ν st tmps w) {o : Oper} {op : BinOp} {t t' : TypeId} {x y : Operand} (ho : o.op = .binOp op t x y t') (hr : (evBin G st o.dst op t x y).run = some st') : AllOk P B X w0 S ν o tmps ds w st' := by
  unfold evBin at hr
  split at hr
  · rename_i f1 k a f2 k' b hx hy
    have ex := val_int (opd_ok (ds := ds) h hx)
    have ey := val_int (opd_ok (ds := ds) h hy)
    split at hr
    · rename_i hsh
      split at hr
      · rename_i c hc
        split at hr
        · cases hr
        · rename_i hneg
          cases hr
          obtain ⟨k2, e2⟩ := const_val hc hy
          cases e2
          exact all_put h (yields_bin ho ex ey fun w' => shift_run hsh (by omega) w') (int_val _ _)
      · simp only [Tr.run] at hr
        split at hr
        · rename_i hb
          cases hr
          exact all_put h (yields_bin ho ex ey fun w' => shift_run hsh (by simpa using hb) w') (int_val _ _)
        · cases hr
    · split at hr
      · rename_i hk
        subst hk
        split at hr
        · rename_i hdv
          split at hr
          · rename_i c hc
            split at hr
            · cases hr
            · rename_i hne
              cases hr
              obtain ⟨k2, e2⟩ := const_val hc hy
              cases e2
              exact all_put h (yields_bin ho ex ey fun w' => div_run hdv hne w') (int_val _ _)
          · simp only [Tr.run] at hr
            split at hr
            · rename_i hb
              cases hr
              exact all_put h (yields_bin ho ex ey fun w' => div_run hdv (by simpa using hb) w') (int_val _ _)
            · cases hr
        · split at hr
          · rename_i c hc
            cases hr
            exact all_put h (yields_bin ho ex ey fun w' => cmp_run hc _ w') (bool_val _)
          · split at hr
            · rename_i c hc
              cases hr
              exact all_put h (yields_bin ho ex ey fun w' => arith_run hc w') (int_val _ _)
            · cases hr
      · cases hr
  · rename_i f1 a f2 b hx hy
    have ex := val_str (opd_ok (ds := ds) h hx)
    have ey := val_str (opd_ok (ds := ds) h hy)
    split at hr
    · cases hr
      exact all_put h (yields_bin ho ex ey fun w' => ⟨by simp [binOp, Op.stringOp], fun x y => eqGuard_at_string _ _ _ _ _ _⟩) (bool_val _)
    · cases hr
      exact all_put h (yields_bin ho ex ey fun w' => ⟨by simp [binOp, Op.stringOp], fun x y => eqGuard_at_string _ _ _ _ _ _⟩) (bool_val _)
    · simp only [Tr.run] at hr
      split at hr
      · rename_i hb
        cases hr
        have hb2 : (ByteArray.size a : Int) + (ByteArray.size b : Int) ≤ 9223372036854775807 := by
          rw [decide_eq_true_eq] at hb
          omega
        exact all_put h (yields_bin ho ex ey fun w' => ⟨by simp [binOp, Op.stringOp, IntKind.max, IntKind.signed, IntKind.bits, hb2], fun x y => eqGuard_at_string _ _ _ _ _ _⟩) (str_val _)
      · cases hr
    · cases hr
  · rename_i f1 p a f2 q b hx hy
    have ha : RdV w (Av S B f1) (.st p) a _ := opd_ok (ds := ds) h hx
    have hb : RdV w (Av S B f2) (.st q) b _ := opd_ok (ds := ds) h hy
    have back : ∀ {b2 : p.I}, Ty.cast q p b = some b2 → RdV w (Av S B f2) (.st p) b2 ((⟨tmps, ds⟩ : Act).eval y) := by
      intro b2 hc
      have e := cast_self hc
      subst e
      have : b2 = b := by unfold Ty.cast at hc; simp at hc; exact hc.symm
      subst this
      exact hb
    split at hr
    · rename_i u b2 hu hc
      split at hr
      · rename_i e
        subst e
        cases hr
        exact all_put h (yields_eq hG ho hu ha (back hc) (.inl ⟨rfl, rfl⟩)) (bool_val _)
      · cases hr
    · rename_i u b2 hu hc
      split at hr
      · rename_i e
        subst e
        cases hr
        exact all_put h (yields_eq hG ho hu ha (back hc) (.inr ⟨rfl, rfl⟩)) (bool_val _)
      · cases hr
    · cases hr
  · rename_i f1 tf te a hx hy
    have hxs : RdV w (Av S B f1) (.err tf te) a _ := opd_ok (ds := ds) h hx
    have ey : (⟨tmps, ds⟩ : Act).eval y = .nilIface := opd_ok (ds := ds) h hy
    have hund : ∀ {tf te : Nat}, olook t G.ty = some (.err tf te) → P.underlying t = some (.interface (P.methodsAt t)) := by
      intro tf te ht
      obtain ⟨d, e1, c1⟩ := (hG.ty _ _ ht).desc
      cases d <;> simp only [dchk] at c1 <;> try contradiction
      rw [e1]
      unfold Program.methodsAt
      rw [e1]
    have hcase : (a = none ∧ (⟨tmps, ds⟩ : Act).eval x = .nilIface) ∨ (a.isSome = true ∧ ∃ u v, (⟨tmps, ds⟩ : Act).eval x = .iface u v) := by
      obtain ⟨cs, h1, h2⟩ := hxs
      unfold Rd at h1
      split at h1
      · left; exact ⟨rfl, by rw [h2, h1]; rfl⟩
      · right
        obtain ⟨ad, h3, _⟩ := h1
        exact ⟨rfl, tf, _, by rw [h2, h3]; rfl⟩
    have nilc : ∀ {op : BinOp} {c : Bool}, o.op = .binOp op t x (.const .nilIface) t' → (⟨tmps, ds⟩ : Act).eval x = .nilIface → (∀ w' : World, (binOp op t .nilIface .nilIface).run P w' = .ok (.bool c) w') → YAll P o ⟨tmps, ds⟩ (.bool c) := by
      intro op c ho ex hb w'
      unfold execOp
      simp only [ho, ex]
      rw [show (⟨tmps, ds⟩ : Act).eval (.const .nilIface) = .nilIface from rfl]
      have hg : eqGuard op t x (.const .nilIface) .nilIface .nilIface = pure () := by
        cases op <;> simp [eqGuard]
      rw [hg]
      simp [hb w']
    split at hr
    · rename_i ht
      cases hr
      rcases hcase with ⟨rfl, ex⟩ | ⟨ha, u, v, ex⟩
      · exact all_put h (nilc ho ex fun w' => run_eql_nil_nil w' t (hund ht)) (bool_val _)
      · rw [show a.isNone = false by cases a <;> simp_all]
        exact all_put h (yields_bin ho ex ey fun w' => ⟨run_eql_held_nil w' t u v (hund ht), fun x y => by simp [eqGuard]⟩) (bool_val _)
    · rename_i ht
      cases hr
      rcases hcase with ⟨rfl, ex⟩ | ⟨ha, u, v, ex⟩
      · exact all_put h (nilc ho ex fun w' => run_neq_nil_nil w' t (hund ht)) (bool_val _)
      · rw [ha]
        exact all_put h (yields_bin ho ex ey fun w' => ⟨run_neq_held_nil w' t u v (hund ht), fun x y => by simp [eqGuard]⟩) (bool_val _)
    · cases hr
  · rename_i f1 p1 y1 hx hy
    have hxs : RdV w (Av S B f1) (.ptr p1) y1 _ := opd_ok (ds := ds) h hx
    obtain ⟨ad, ex⟩ : ∃ ad, (⟨tmps, ds⟩ : Act).eval x = .pointer (some ad) := by
      obtain ⟨cs, h1, h2⟩ := hxs
      unfold Rd at h1
      obtain ⟨ad, h3, _⟩ := h1
      exact ⟨ad, by rw [h2, h3]; rfl⟩
    have ey : (⟨tmps, ds⟩ : Act).eval y = .pointer none := opd_ok (ds := ds) h hy
    have hund : ∀ {p : Ty}, olook t G.ty = some (.ptr p) → P.underlying t = some (.pointer (P.pointee t)) := by
      intro p ht
      obtain ⟨d, e1, c1⟩ := (hG.ty _ _ ht).desc
      cases d <;> simp only [dchk] at c1 <;> try contradiction
      unfold Program.pointee
      rw [e1]
    split at hr
    · rename_i q ht
      cases hr
      exact all_put h (yields_bin ho ex ey fun w' => ⟨run_eql_pointer_nil w' t (some ad) (hund ht), fun x y => by simp [eqGuard]⟩) (show SlotRd _ _ _ _ _ _ (.lit false) _ from rfl)
    · rename_i q ht
      cases hr
      exact all_put h (yields_bin ho ex ey fun w' => ⟨run_neq_pointer_nil w' t (some ad) (hund ht), fun x y => by simp [eqGuard]⟩) (show SlotRd _ _ _ _ _ _ (.lit true) _ from rfl)
    · cases hr
  · rename_i f1 e1 xs1 hx hy
    have hxs : Slot1Rd B X w S ν st.objs (.nn f1 e1 xs1) _ := opd_ok (ds := ds) h hx
    obtain ⟨_, ad, n, c, ex⟩ := hxs
    have ey : (⟨tmps, ds⟩ : Act).eval y = .slice none 0 0 := opd_ok (ds := ds) h hy
    split at hr
    · rename_i e ht
      obtain ⟨u, hu⟩ := sl_desc hG ht
      cases hr
      exact all_put h (yields_bin ho ex ey fun w' => ⟨by simp [binOp, run_equal_slice_nil w' t u (some ad) n c hu], fun x y => eqGuard_at_slice _ _ _ _ _ _ _ _⟩) (show SlotRd _ _ _ _ _ _ (.lit false) _ from rfl)
    · rename_i e ht
      obtain ⟨u, hu⟩ := sl_desc hG ht
      cases hr
      exact all_put h (yields_bin ho ex ey fun w' => ⟨by simp [binOp, run_equal_slice_nil w' t u (some ad) n c hu], fun x y => eqGuard_at_slice _ _ _ _ _ _ _ _⟩) (show SlotRd _ _ _ _ _ _ (.lit true) _ from rfl)
    · cases hr
  · rename_i hx hy
    have ex : (⟨tmps, ds⟩ : Act).eval x = .slice none 0 0 := opd_ok (ds := ds) h hx
    have ey : (⟨tmps, ds⟩ : Act).eval y = .slice none 0 0 := opd_ok (ds := ds) h hy
    split at hr
    · rename_i e ht
      obtain ⟨u, hu⟩ := sl_desc hG ht
      cases hr
      exact all_put h (yields_bin ho ex ey fun w' => ⟨by simp [binOp, run_equal_slice_nil w' t u none 0 0 hu], fun x y => eqGuard_at_slice _ _ _ _ _ _ _ _⟩) (show SlotRd _ _ _ _ _ _ (.lit true) _ from rfl)
    · rename_i e ht
      obtain ⟨u, hu⟩ := sl_desc hG ht
      cases hr
      exact all_put h (yields_bin ho ex ey fun w' => ⟨by simp [binOp, run_equal_slice_nil w' t u none 0 0 hu], fun x y => eqGuard_at_slice _ _ _ _ _ _ _ _⟩) (show SlotRd _ _ _ _ _ _ (.lit false) _ from rfl)
    · cases hr
  · rename_i a b _ _ _ _ _ _ hx hy
    have hb : ∀ {t : TypeId}, olook t G.ty = some .bool → P.underlying t = some .bool := by
      intro t ht
      obtain ⟨d, e1, c1⟩ := (hG.ty _ _ ht).desc
      cases d <;> simp only [dchk] at c1 <;> first | contradiction | exact e1
    have ha := opd_ok (ds := ds) h hx
    have hb' := opd_ok (ds := ds) h hy
    have hz : ∀ {s : Slot} {b : Bool} {v : Value}, SlotRd B X w S ν st.objs s v → bools s = some b → v = .bool b := by
      intro s b v h1 h2
      cases s with
      | lit c => exact bools_val (B := B) (X := X) (w := w) (S := S) (ν := ν) (st := st) (s := .lit c) h1 h2
      | val f t x => exact bools_val (B := B) (X := X) (w := w) (S := S) (ν := ν) (st := st) (s := .val f t x) h1 h2
      | _ => cases h2
    split at hr
    · rename_i a2 b2 h1 h2 h3
      cases hr
      exact all_put h (yields_bin ho (hz ha h1) (hz hb' h2) fun w' => ⟨by simp [binOp, Op.equal, Op.maxDepth, run_equalIn_bool', hb h3], fun x y => eqGuard_at_bool _ _ _ _ _ _⟩) (bool_val _)
    · rename_i a2 b2 h1 h2 h3
      cases hr
      exact all_put h (yields_bin ho (hz ha h1) (hz hb' h2) fun w' => ⟨by simp [binOp, Op.equal, Op.maxDepth, run_equalIn_bool', hb h3], fun x y => eqGuard_at_bool _ _ _ _ _ _⟩) (bool_val _)
    · cases hr
  · cases hr
theorem int_lt {q : Int} {n : Nat} (h0 : 0 ≤ q) (h : q.toNat < n) : q < (n : Int) := by omega
theorem run_indexArr {t e : TypeId} {i : TypeInfo} {m : Nat} (ht : P.underlying t = some (.array m e)) (hi : P.info? e = some i) {ad : Addr} {k : IntKind} {n : Int} (h0 : 0 ≤ n) (hn : n < m) (w' : World) :
    (Instr.indexAt t (.pointer (some ad)) (.int k n)).run P w' = .ok (.pointer (some (ad.add (n.toNat * i.size)))) w' := by
  simp [Instr.indexAt, asIntOf, run_underlying ht, sizeOf, typeInfo, hi, h0, hn, Instr.sureAddr]
theorem evIndexAddrA_ok (hG : CtxOk P G) (h : Inv B X w0 S ν st tmps w) {o : Oper} {t : TypeId} {x y : Operand} (ho : o.op = .indexAddr t x y) (hr : (evIndexAddrA G st o.dst t x y).run = some st') : AllOk P B X w0 S ν o tmps ds w st' := by
  unfold evIndexAddrA at hr
  split at hr
  · rename_i n e fr n' e' y' f2 k q ht hx hy
    split at hr
    · rename_i heq
      obtain ⟨rfl, rfl⟩ := heq
      obtain ⟨z, hz, hr⟩ := run_bnd hr
      cases hr
      obtain ⟨i0, i1, i2⟩ := idx_some' hz
      have ey := val_int (opd_ok (ds := ds) h hy)
      obtain ⟨ad, ev, hs, hl, us, hrd, hc⟩ := (show Slot1Rd B X w S ν st.objs (.cptr fr (.arr n e) y') _ from opd_ok (ds := ds) h hx)
      obtain ⟨t', e1, ⟨i, e2, e3⟩, _⟩ := arr_desc (hG.ty _ _ ht)
      unfold Rd at hrd
      obtain ⟨vs, k1, k2⟩ := hrd.2.2 q.toNat z i1
      refine all_put h (v := .pointer (some (ad.add (q.toNat * e.size)))) (fun w' => ?_) ⟨_, rfl, by rw [add_block]; exact hs, by rw [add_block]; exact hl, vs, k1, fun j u hj => by rw [add_add]; exact hc _ _ (k2 j u hj)⟩
      simp only [execOp, ho, ev, ey]
      simp [run_indexArr e1 e2 i0 (int_lt i0 (hrd.1 ▸ i2)), e3]
    · cases hr
  · rename_i n e tag i0 path n' e' y' f2 k q ht hx hy
    split at hr
    · rename_i heq
      obtain ⟨rfl, rfl⟩ := heq
      obtain ⟨z, hz, hr⟩ := run_bnd hr
      cases hr
      obtain ⟨j0, j1, j2⟩ := idx_some' hz
      have ey := val_int (opd_ok (ds := ds) h hy)
      obtain ⟨ob, b, m, cap, el, p1, p2, p3, p4, p5, p6, p7⟩ := (show Slot1Rd B X w S ν st.objs (.eptr tag i0 path (.arr n e) (some y')) _ from opd_ok (ds := ds) h hx)
      obtain ⟨t', e1, ⟨i, e2, e3⟩, _⟩ := arr_desc (hG.ty _ _ ht)
      have hg := p7 y' rfl
      have hlen : y'.length = n := by
        obtain ⟨cs, hown, hrow⟩ := h.obj tag _ p1
        obtain ⟨us, r1, _⟩ := hrow i0.toNat el p5
        obtain ⟨_, vs, r3, _⟩ := r1.at_ hg
        unfold Rd at r3
        exact r3.1
      have hty : tyAt (.arr n e) [.at q] = some e := by
        show (if 0 ≤ q ∧ q.toNat < n then tyAt e [] else none) = _
        rw [if_pos ⟨j0, hlen ▸ j2⟩, tyAt_nil]
      obtain ⟨o1, o2⟩ := offAt_append (q := [.at q]) p6
      have hoff : offAt (.arr n e) [.at q] = q.toNat * e.size := by
        show q.toNat * e.size + offAt e [] = _
        rw [offAt_nil]; rfl
      have hget : getAt (.arr n e) [.at q] y' = some ⟨e, z⟩ := by
        show (match idx y' q with | some y => getAt e [] y | none => none) = _
        rw [hz]; exact getAt_nil _ _
      refine all_put h (v := .pointer (some ⟨b, i0.toNat * ob.e.size + offAt ob.e (path ++ [Step.at q]), none⟩)) (fun w' => ?_)
        (show Slot1Rd B X w S ν st.objs (.eptr tag i0 (path ++ [Step.at q]) e (some z)) _ from ⟨ob, b, m, cap, el, p1, p2, p3, rfl, p5, o2.trans hty, fun x hx => by cases hx; rw [getAt_append hg]; exact hget⟩)
      simp only [execOp, ho, p4, ey]
      rw [o1, hoff]
      simp [run_indexArr e1 e2 j0 (int_lt j0 (hlen ▸ j2)), e3, addr_add, Nat.add_assoc]
    · cases hr
  · cases hr
theorem evIndex_ok (hG : CtxOk P G) (h : Inv B X w0 S ν st tmps w) {o : Oper} {t : TypeId} {x y : Operand} (ho : o.op = .index t x y) (hr : (evIndex G st o.dst t x y).run = some st') : AllOk P B X w0 S ν o tmps ds w st' := by
  unfold evIndex at hr
  split at hr
  · rename_i n e fr n' e' y' f2 k q ht hx hy
    split at hr
    · rename_i heq
      obtain ⟨rfl, rfl⟩ := heq
      obtain ⟨z, hz, hr⟩ := run_bnd hr
      cases hr
      obtain ⟨i0, i1, i2⟩ := idx_some' hz
      have ey := val_int (opd_ok (ds := ds) h hy)
      obtain ⟨cs, hrd, ev⟩ := (show RdV w (Av S B fr) (.arr n e) y' _ from opd_ok (ds := ds) h hx)
      obtain ⟨t', e1, ⟨i, e2, e3⟩, e4, e5, _⟩ := arr_desc (hG.ty _ _ ht)
      unfold Rd at hrd
      obtain ⟨vs, k1, k2⟩ := hrd.2.2 q.toNat z i1
      have hq := int_lt i0 (hrd.1 ▸ i2)
      have ev' : (⟨tmps, ds⟩ : Act).eval x = .agg cs.toArray := ev
      refine all_put h (v := mkV e vs) (fun w' => ?_) (show RdV w (Av S B fr) e z (mkV e vs) from ⟨vs, k1, rfl⟩)
      have hp := run_part (P := P) (w' := w') e2 e3 e4 e5 k1.len k2
      simp only [execOp, ho, ev', ey]
      simp only [Instr.index, asIntOf]
      have i0' : 0 ≤ (q : Int) := i0
      simp [run_underlying e1, sizeOf, typeInfo, e2, e3, i0', hq, hp]
    · cases hr
  · cases hr
theorem evMakeI_ok (hG : CtxOk P G) (h : Inv B X w0 S ν st tmps w) {o : Oper} {t : TypeId} {x : Operand} (ho : o.op = .makeInterface t x) (hr : (match inList t G.enos, st.opd x with | true, some (.val _ (.int .i64) n) => (Tr.pure (st.put o.dst (.val true (.eno t) n)) : Tr St) | _, _ => .fail).run = some st') : AllOk P B X w0 S ν o tmps ds w st' := by
  split at hr
  · rename_i n h1 h2
    cases hr
    have ev := val_int (opd_ok (ds := ds) h h2)
    refine all_put h (v := .iface t (.int .i64 n)) (fun w' => ?_) (show RdV w (Av S B true) (.eno t) n _ from ⟨_, by unfold Rd; rfl, rfl⟩)
    simp only [execOp, ho, ev]
    simp [Instr.makeInterface, run_underlying (hG.eno t h1)]
  · cases hr
end Go.Proofs.YtnldcpanpojeiaaGreatDoor
