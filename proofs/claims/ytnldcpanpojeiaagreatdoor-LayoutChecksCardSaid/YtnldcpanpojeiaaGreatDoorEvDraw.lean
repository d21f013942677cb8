/-
  Regions whose order is drawn: what holds in the order in which the operations are listed holds in each order that may be drawn,
  where each two operations of which neither waits for the other may change places.
-/
import Derived.Test.YtnldcpanpojeiaaGreatDoorEvCode
namespace Go.Proofs.YtnldcpanpojeiaaGreatDoor
open Go.RowKit
variable {P : Program} {Λ : List Nat} {ops : Array Oper} {w w' : World} {Q : Act → World → Prop}
def YH (P : Program) (ops : Array Oper) (o : Oper) (v : Value) (a : Act) (w : World) : Prop :=
  (Region.wanted o (yielded ops a.tmps) = true ∧ Yields P o a w v ∧ (isLight o = true → ∀ w' : World, (execOp a.eval o).run P w' = .ok (.value v) w')) ∨ (Region.wanted o (yielded ops a.tmps) = false ∧ v = undef)
def strict (Q : Act → World → Prop) : Exit → Act → World → Prop
  | .normal, a, w => Q a w
  | _, _, _ => False
theorem strict_out : ¬ LetsOut (strict Q) := fun ⟨_, _, h⟩ => h
def wp2 (P : Program) (Λ : List Nat) (ops : Array Oper) (Q : Act → World → Prop) (i : Nat) (K : Act → World → Prop) (a : Act) (w : World) : Prop :=
  match ops[i]? with
  | none => K a w
  | some o =>
    if softOp o then ∃ v, YH P ops o v a w ∧ K (a.put o.dst v) w
    else if Region.wanted o (yielded ops a.tmps) then o.wp P a w (fun a' w' => (growOp Λ o = true → Ext w w') ∧ K a' w') (strict Q) else K (a.put o.dst undef) w
def wp2s (P : Program) (Λ : List Nat) (ops : Array Oper) (Q : Act → World → Prop) : List Nat → Act → World → Prop
  | [], a, w => Q a w
  | i :: r, a, w => wp2 P Λ ops Q i (wp2s P Λ ops Q r) a w
theorem YH.same {o : Oper} {v : Value} {a a' : Act} (h : YH P ops o v a w) (he : execOp a'.eval o = execOp a.eval o) (hw : Region.wanted o (yielded ops a'.tmps) = Region.wanted o (yielded ops a.tmps)) : YH P ops o v a' w := by
  unfold YH Yields at *
  rw [he, hw]; exact h
theorem YH.uniq {o : Oper} {u v : Value} {a : Act} (h : YH P ops o u a w) (k : YH P ops o v a w) : u = v := by
  rcases h with ⟨h1, h2, _⟩ | ⟨h1, rfl⟩ <;> rcases k with ⟨k1, k2, _⟩ | ⟨k1, rfl⟩
  · have a1 := h2 w (Ext.refl w)
    rw [k2 w (Ext.refl w)] at a1
    injection a1 with a1
    injection a1 with a1
    exact a1.symm
  · rw [h1] at k1; cases k1
  · rw [h1] at k1; cases k1
  · rfl
theorem light_quiet {o : Oper} (h : isLight o = true) : softOp o = true := by unfold softOp; rw [h, Bool.or_true]
theorem not_select {o : Oper} (h : softOp o = true) (cs : Array SelectCase) (b : Bool) : o.op ≠ .select cs b := by
  intro e; unfold softOp isLight at h; rw [e] at h; cases h
theorem YH.ext {o : Oper} {v : Value} {a : Act} (he : Ext w w') (h : YH P ops o v a w) : YH P ops o v a w' := by
  rcases h with ⟨h1, h2, h3⟩ | h
  · exact .inl ⟨h1, fun w'' h' => h2 w'' (he.trans h'), h3⟩
  · exact .inr h
theorem YH.all {o : Oper} {v : Value} {a : Act} (hm : isLight o = true) (h : YH P ops o v a w) (w' : World) : YH P ops o v a w' := by
  rcases h with ⟨h1, _, h2⟩ | h
  · exact .inl ⟨h1, fun w'' _ => h2 hm w'', h2⟩
  · exact .inr h
theorem YH.put {oi oj : Oper} {u x : Value} {a : Act} (hs : ∀ cs b, oi.op ≠ .select cs b) (h : ∀ d, oj.dst = some d → d ∉ oi.looksAt ops) : YH P ops oi u (a.put oj.dst x) w ↔ YH P ops oi u a w := by
  constructor
  · exact fun k => k.same (execOp_put oi hs a oj.dst x h).symm (wanted_put oi a oj.dst x h).symm
  · exact fun k => k.same (execOp_put oi hs a oj.dst x h) (wanted_put oi a oj.dst x h)
theorem wp2_mono {i : Nat} {K K' : Act → World → Prop} (hK : ∀ a w, K a w → K' a w) {a : Act} (h : wp2 P Λ ops Q i K a w) : wp2 P Λ ops Q i K' a w := by
  unfold wp2 at *
  split
  · simp only [*] at h; exact hK _ _ h
  · rename_i o ho
    simp only [ho] at h
    split
    · rename_i hq
      rw [if_pos hq] at h
      obtain ⟨v, h1, h2⟩ := h
      exact ⟨v, h1, hK _ _ h2⟩
    · rename_i hq
      rw [if_neg hq] at h
      split
      · rename_i hw
        rw [if_pos hw] at h
        exact Oper.wp_mono (fun a w h => ⟨h.1, hK _ _ h.2⟩) h
      · rename_i hw
        rw [if_neg hw] at h
        exact hK _ _ h
theorem reaches {o : Oper} {a : Act} {K : Act → World → Prop} (h : o.wp P a w K (strict Q)) : ∃ (b : Act) (x : Value) (w' : World), (b = a ∨ ∃ d, b = { a with defers := d :: a.defers }) ∧ K (b.put o.dst x) w' := by
  unfold Oper.wp at h
  generalize (execOp a.eval o).run P w = r at h
  cases r with
  | ok n w' =>
    cases n <;> simp only [Oper.upon] at h
    case value x => exact ⟨a, x, w', .inl rfl, h⟩
    case skip => exact ⟨a, _, w', .inl rfl, h⟩
    case defer d => exact ⟨_, _, w', .inr ⟨d, rfl⟩, h⟩
    case enter f args =>
      obtain ⟨e, w'', _, he, _⟩ := h []
      cases e with
      | returned v => exact ⟨a, v, w'', .inl rfl, he⟩
      | panicked c => exact he.elim
      | outgrown => exact (strict_out he).elim
    case row row args =>
      obtain ⟨v, w'', he, _⟩ := h (Frame.enter P 0 #[] .normal) []
      exact ⟨a, v, w'', .inl rfl, he⟩
  | halt x w' =>
    cases x <;> simp only [Oper.upon] at h
    case panic u => exact h.elim
theorem wp_shift {o : Oper} (hs : ∀ cs b, o.op ≠ .select cs b) {d : Option Tmp} {v : Value} (h1 : ∀ t, d = some t → t ∉ o.looksAt ops) (h2 : ∀ t, d = some t → o.dst ≠ some t) {a : Act} {K K' : Act → World → Prop}
    (hK : ∀ (b : Act) (x : Value) (w' : World), (b = a ∨ ∃ q, b = { a with defers := q :: a.defers }) → K ((b.put d v).put o.dst x) w' → K' (b.put o.dst x) w') (h : o.wp P (a.put d v) w K (strict Q)) : o.wp P a w K' (strict Q) := by
  unfold Oper.wp at *
  rw [execOp_put o hs a d v h1] at h
  generalize (execOp a.eval o).run P w = r at *
  cases r with
  | ok n w' =>
    cases n <;> simp only [Oper.upon] at h ⊢
    case value u => exact hK _ _ _ (.inl rfl) h
    case skip => exact hK _ _ _ (.inl rfl) h
    case defer q =>
      refine hK _ _ _ (.inr ⟨q, rfl⟩) ?_
      rw [← Act.put_defers]
      exact h
    case enter f args =>
      refine Calls.mono h fun e w'' he => ?_
      cases e with
      | returned u => exact hK _ _ _ (.inl rfl) he
      | panicked c => exact he
      | outgrown => exact he
    case row row args => exact Rows.mono h fun u w'' he => hK _ _ _ (.inl rfl) he
  | halt x w' =>
    cases x <;> simp only [Oper.upon] at h ⊢
    case panic u => exact h
theorem wp_unshift {o : Oper} (hs : ∀ cs b, o.op ≠ .select cs b) {d : Option Tmp} {v : Value} (h1 : ∀ t, d = some t → t ∉ o.looksAt ops) {a : Act} {K K' : Act → World → Prop}
    (hK : ∀ (b : Act) (x : Value) (w' : World), (b = a ∨ ∃ q, b = { a with defers := q :: a.defers }) → K (b.put o.dst x) w' → K' ((b.put d v).put o.dst x) w') (h : o.wp P a w K (strict Q)) : o.wp P (a.put d v) w K' (strict Q) := by
  unfold Oper.wp at *
  rw [execOp_put o hs a d v h1]
  generalize (execOp a.eval o).run P w = r at *
  cases r with
  | ok n w' =>
    cases n <;> simp only [Oper.upon] at h ⊢
    case value u => exact hK _ _ _ (.inl rfl) h
    case skip => exact hK _ _ _ (.inl rfl) h
    case defer q =>
      rw [Act.put_defers]
      exact hK _ _ _ (.inr ⟨q, rfl⟩) h
    case enter f args =>
      refine Calls.mono h fun e w'' he => ?_
      cases e with
      | returned u => exact hK _ _ _ (.inl rfl) he
      | panicked c => exact he
      | outgrown => exact he
    case row row args => exact Rows.mono h fun u w'' he => hK _ _ _ (.inl rfl) he
  | halt x w' =>
    cases x <;> simp only [Oper.upon] at h ⊢
    case panic u => exact h
theorem wp2_soft {i : Nat} {o : Oper} (hi : ops[i]? = some o) (hq : softOp o = true) {K : Act → World → Prop} {a : Act} : wp2 P Λ ops Q i K a w ↔ ∃ v, YH P ops o v a w ∧ K (a.put o.dst v) w := by
  unfold wp2
  simp only [hi, if_pos hq]
theorem wp2_hard {i : Nat} {o : Oper} (hi : ops[i]? = some o) (hq : ¬ softOp o = true) {K : Act → World → Prop} {a : Act} : wp2 P Λ ops Q i K a w ↔ (if Region.wanted o (yielded ops a.tmps) then o.wp P a w (fun a' w' => (growOp Λ o = true → Ext w w') ∧ K a' w') (strict Q) else K (a.put o.dst undef) w) := by
  unfold wp2
  simp only [hi, if_neg hq]
theorem YH.defer {o : Oper} {v : Value} {a b : Act} (hb : b = a ∨ ∃ q, b = { a with defers := q :: a.defers }) (h : YH P ops o v a w) : YH P ops o v b w := by
  rcases hb with rfl | ⟨q, rfl⟩
  · exact h
  · exact h.same rfl rfl
theorem wp2_swap {i j : Nat} {oi oj : Oper} (hi : ops[i]? = some oi) (hj : ops[j]? = some oj) (hsi : ∀ cs b, oi.op ≠ .select cs b) (hsj : ∀ cs b, oj.op ≠ .select cs b) (hc : commB Λ ops oj oi = true) {K : Act → World → Prop} {a : Act}
    (h : wp2 P Λ ops Q j (wp2 P Λ ops Q i K) a w) : wp2 P Λ ops Q i (wp2 P Λ ops Q j K) a w := by
  unfold commB at hc
  simp only [Bool.and_eq_true, Bool.or_eq_true] at hc
  obtain ⟨hap, hc⟩ := hc
  obtain ⟨p1, p2, p3⟩ := Oper.apart_spec hap
  have comm : ∀ (a : Act) (v u : Value), (a.put oj.dst v).put oi.dst u = (a.put oi.dst u).put oj.dst v := fun a v u => Act.put_comm a v u p2
  by_cases qj : softOp oj = true
  · obtain ⟨v, h1, h2⟩ := (wp2_soft hj qj).1 h
    by_cases qi : softOp oi = true
    · obtain ⟨u, h3, h4⟩ := (wp2_soft hi qi).1 h2
      exact (wp2_soft hi qi).2 ⟨u, (YH.put hsi p1).1 h3, (wp2_soft hj qj).2 ⟨v, (YH.put hsj p3).2 h1, by rw [← comm]; exact h4⟩⟩
    · have h2 := (wp2_hard hi qi).1 h2
      refine (wp2_hard hi qi).2 ?_
      rw [wanted_put oi a oj.dst v p1] at h2
      split
      · rename_i hw
        rw [if_pos hw] at h2
        refine wp_shift hsi p1 p2 (fun b x w' hb hk => ⟨hk.1, (wp2_soft hj qj).2 ⟨v, (YH.put hsj p3).2 (YH.defer hb ?_), by rw [← comm]; exact hk.2⟩⟩) h2
        rcases hc with ((hc | hc) | hc) | hc
        · exact absurd hc.2 qi
        · exact h1.all hc w'
        · exact absurd (light_quiet hc) qi
        · exact h1.ext (hk.1 hc.2)
      · rename_i hw
        rw [if_neg hw] at h2
        exact (wp2_soft hj qj).2 ⟨v, (YH.put hsj p3).2 h1, by rw [← comm]; exact h2⟩
  · have mi : isLight oi = true := by
      rcases hc with ((hc | hc) | hc) | hc
      · exact absurd hc.1 qj
      · exact absurd (light_quiet hc) qj
      · exact hc
      · exact absurd hc.1 qj
    have qi := light_quiet mi
    have h := (wp2_hard hj qj).1 h
    obtain ⟨u, hu⟩ : ∃ u, ∀ w', YH P ops oi u a w' := by
      have one : ∀ {b : Act} {x : Value} {w' : World}, (b = a ∨ ∃ d, b = { a with defers := d :: a.defers }) → wp2 P Λ ops Q i K (b.put oj.dst x) w' → ∃ u, ∀ w', YH P ops oi u a w' := by
        intro b x w' hb hk
        obtain ⟨u, k1, _⟩ := (wp2_soft hi qi).1 hk
        have k2 := (YH.put hsi p1).1 k1
        refine ⟨u, fun w'' => ?_⟩
        rcases hb with rfl | ⟨d, rfl⟩
        · exact k2.all mi w''
        · exact (k2.same (a' := a) rfl rfl).all mi w''
      split at h
      · obtain ⟨b, x, w', hb, hk⟩ := reaches h
        exact one hb hk.2
      · exact one (.inl rfl) h
    have back : ∀ (b : Act) (x : Value) (w' : World), (b = a ∨ ∃ q, b = { a with defers := q :: a.defers }) → wp2 P Λ ops Q i K (b.put oj.dst x) w' → K ((b.put oi.dst u).put oj.dst x) w' := by
      intro b x w' hb hk
      obtain ⟨u', k1, k2⟩ := (wp2_soft hi qi).1 hk
      have : u' = u := ((YH.put hsi p1).1 k1).uniq (YH.defer hb (hu w'))
      subst this
      rw [← comm]; exact k2
    refine (wp2_soft hi qi).2 ⟨u, hu w, (wp2_hard hj qj).2 ?_⟩
    rw [wanted_put oj a oi.dst u p3]
    split
    · rename_i hw
      rw [if_pos hw] at h
      exact wp_unshift hsj p3 (fun b x w' hb hk => ⟨hk.1, back b x w' hb hk.2⟩) h
    · rename_i hw
      rw [if_neg hw] at h
      exact back _ _ _ (.inl rfl) h
theorem wp2s_bubble {i : Nat} {oi : Oper} (hi : ops[i]? = some oi) (hsel : ∀ (j : Nat) (o : Oper) cs b, ops[j]? = some o → o.op ≠ .select cs b) {L2 : List Nat} : ∀ {L1 : List Nat} {a : Act} {w : World}, (∀ j ∈ L1, ∃ oj, ops[j]? = some oj ∧ commB Λ ops oj oi = true) →
    wp2s P Λ ops Q (L1 ++ i :: L2) a w → wp2 P Λ ops Q i (wp2s P Λ ops Q (L1 ++ L2)) a w
  | [], _, _, _, h => h
  | j :: L1, a, w, hL, h => by
    have h' : wp2 P Λ ops Q j (wp2s P Λ ops Q (L1 ++ i :: L2)) a w := h
    obtain ⟨oj, hj, hc⟩ := hL j (by simp)
    exact wp2_swap hi hj (fun cs b => hsel i oi cs b hi) (fun cs b => hsel j oj cs b hj) hc (wp2_mono (fun a w h => wp2s_bubble hi hsel (fun k hk => hL k (by simp [hk])) h) h')
theorem wpOp_of_wp2 {i : Nat} {K : Act → World → Prop} {a : Act} (h : wp2 P Λ ops Q i K a w) : wpOp P ops (strict Q) i K a w := by
  unfold wp2 at h
  unfold wpOp
  split
  · simp only [*] at h; exact h
  · rename_i o ho
    simp only [ho] at h
    split at h
    · obtain ⟨v, h1, h2⟩ := h
      rcases h1 with ⟨hw, hy, _⟩ | ⟨hw, rfl⟩
      · rw [if_pos hw]
        refine .inl ?_
        unfold Oper.wp
        rw [hy w (Ext.refl w)]
        exact h2
      · rw [if_neg (by rw [hw]; simp)]
        exact h2
    · split at h
      · rename_i hw
        rw [if_pos hw]
        exact .inl (Oper.wp_mono (fun _ _ h => h.2) h)
      · rename_i hw
        rw [if_neg hw]
        exact h
inductive Anc (l : List Oper) : Nat → Nat → Prop
  | dep {i : Nat} {o : Oper} {e : Edge} : l[i]? = some o → e ∈ o.after → Region.binds .any e = true → Anc l i e.on
  | step {i j : Nat} {o : Oper} {e : Edge} : l[i]? = some o → e ∈ o.after → Region.binds .any e = true → Anc l e.on j → Anc l i j
theorem maskOf_bit {done : List (Nat × Nat)} {o : Oper} {j : Nat} (h : (maskOf done o).testBit j = true) : ∃ e ∈ o.after, Region.binds .any e = true ∧ (e.on = j ∨ ∃ k, olook e.on done = some k ∧ k.testBit j = true) := by
  have key : ∀ (l : List Edge) (m : Nat), (l.foldl (fun m e => if Region.binds .any e then m ||| (2 ^ e.on ||| (match olook e.on done with | some k => k | none => 0)) else m) m).testBit j = true →
      m.testBit j = true ∨ ∃ e ∈ l, Region.binds .any e = true ∧ (e.on = j ∨ ∃ k, olook e.on done = some k ∧ k.testBit j = true) := by
    intro l
    induction l with
    | nil => intro m h; exact .inl h
    | cons e l ih =>
      intro m h
      rw [List.foldl_cons] at h
      rcases ih _ h with h | ⟨e', h1, h2⟩
      · by_cases hb : Region.binds .any e = true
        · rw [if_pos hb, Nat.testBit_or, Nat.testBit_or, Nat.testBit_two_pow] at h
          simp only [Bool.or_eq_true, decide_eq_true_eq] at h
          rcases h with h | h | h
          · exact .inl h
          · exact .inr ⟨e, by simp, hb, .inl h⟩
          · split at h
            · rename_i k hk
              exact .inr ⟨e, by simp, hb, .inr ⟨k, hk, h⟩⟩
            · simp at h
        · rw [if_neg hb] at h; exact .inl h
      · exact .inr ⟨e', by simp [h1], h2⟩
  rcases key _ _ h with h | ⟨e, h1, h2⟩
  · simp at h
  · exact ⟨e, by simpa using h1, h2⟩
structure Walked (Λ : List Nat) (l : List Oper) (ops : Array Oper) (pre : List Nat) (i : Nat) : Prop where
  deps : ∀ o, l[i]? = some o → ∀ e ∈ o.after, Region.binds .any e = true → e.on ∈ pre
  comm : ∀ j ∈ pre, Anc l i j ∨ ∃ oj oi, l[j]? = some oj ∧ l[i]? = some oi ∧ commB Λ ops oj oi = true
  here : ∃ o, l[i]? = some o
  new : i ∉ pre
theorem walk_ok {l : List Oper} {ops : Array Oper} : ∀ {σ : List Nat} {done : List (Nat × Nat)} {pre : List Nat}, walkB Λ l ops σ done = true → (∀ j, j ∈ pre ↔ ∃ k, olook j done = some k) → (∀ j, j ∈ pre ↔ ∃ k, (j, k) ∈ done) → (∀ i k, olook i done = some k → ∀ j, k.testBit j = true → Anc l i j) →
    ∀ (σ1 : List Nat) (i : Nat) (σ2 : List Nat), σ = σ1 ++ i :: σ2 → Walked Λ l ops (pre ++ σ1) i
  | [], _, _, _, _, _, _, σ1, i, σ2, e => by cases σ1 <;> cases e
  | x :: σ, done, pre, hB, hd, hd', hm, σ1, i, σ2, e => by
    unfold walkB at hB
    split at hB
    · rename_i o ho
      simp only [Bool.and_eq_true] at hB
      obtain ⟨⟨hdep, hnew⟩, hc, hrest⟩ := hB
      have hx : ∀ j, (maskOf done o).testBit j = true → Anc l x j := by
        intro j hj
        obtain ⟨e, h1, h2, h3 | ⟨k, h3, h4⟩⟩ := maskOf_bit hj
        · rw [← h3]; exact .dep ho h1 h2
        · exact .step ho h1 h2 (hm _ _ h3 _ h4)
      have hxn : x ∉ pre := by
        intro hx
        obtain ⟨k, hk⟩ := (hd x).1 hx
        rw [hk] at hnew
        cases hnew
      cases σ1 with
      | nil =>
        cases e
        rw [List.append_nil]
        refine ⟨fun o' ho' e he hb => ?_, fun j hj => ?_, ⟨o, ho⟩, hxn⟩
        · rw [ho] at ho'; cases ho'
          have := List.all_eq_true.1 hdep e (by simpa using he)
          rw [hb] at this
          refine (hd _).2 ?_
          cases hk : olook e.on done with
          | some k => exact ⟨k, rfl⟩
          | none => rw [hk] at this; cases this
        · obtain ⟨k, hk⟩ := (hd' j).1 hj
          have := List.all_eq_true.1 hc _ hk
          simp only [Bool.or_eq_true] at this
          rcases this with h | h
          · exact .inl (hx j h)
          · split at h
            · rename_i oj hoj; exact .inr ⟨oj, o, hoj, ho, h⟩
            · cases h
      | cons y σ1 =>
        injection e with e1 e2
        subst e1
        have := walk_ok (pre := pre ++ [x]) hrest (fun j => ?_) (fun j => ?_) (fun i k hk j hj => ?_) σ1 i σ2 e2
        · simpa using this
        · rw [List.mem_append, hd j]
          constructor
          · rintro (⟨k, hk⟩ | hj)
            · rw [olook_cons]
              split
              · exact ⟨_, rfl⟩
              · exact ⟨k, hk⟩
            · have : j = x := by simpa using hj
              subst this
              exact ⟨_, by rw [olook_cons, if_pos rfl]⟩
          · rintro ⟨k, hk⟩
            rw [olook_cons] at hk
            split at hk
            · rename_i e; exact .inr (by simp [e])
            · exact .inl ⟨k, hk⟩
        · rw [List.mem_append, hd' j]
          constructor
          · rintro (⟨k, hk⟩ | hj)
            · exact ⟨k, by simp [hk]⟩
            · have : j = x := by simpa using hj
              subst this
              exact ⟨_, List.mem_cons_self⟩
          · rintro ⟨k, hk⟩
            rcases List.mem_cons.1 hk with h | h
            · injection h with h; exact .inr (by simp [h])
            · exact .inl ⟨k, h⟩
        · rw [olook_cons] at hk
          split at hk
          · rename_i e; subst e; cases hk; exact hx j hj
          · exact hm _ _ hk _ hj
    · cases hB
def unl (σ : List Nat) (listed : Array Bool) : List Nat := σ.filter fun i => !listed.getD i true
theorem filter_split {p : Nat → Bool} {i : Nat} : ∀ {l : List Nat}, l.Nodup → i ∈ l → p i = true → ∃ A B L1 L2, l = A ++ i :: B ∧ l.filter p = L1 ++ i :: L2 ∧ (∀ j ∈ L1, p j = true ∧ j ∈ A) ∧ l.filter (fun j => p j && j != i) = L1 ++ L2
  | [], _, h, _ => by cases h
  | x :: l, hp, h, hi => by
    rw [List.nodup_cons] at hp
    by_cases hx : x = i
    · subst hx
      refine ⟨[], l, [], l.filter p, rfl, by simp [hi], by simp, ?_⟩
      rw [List.filter_cons]
      simp only [bne_self_eq_false, Bool.and_false, Bool.false_eq_true, if_false, List.nil_append]
      refine List.filter_congr fun j hj => ?_
      have : (j != x) = true := by
        simp only [bne_iff_ne, ne_eq]
        intro e; subst e; exact hp.1 hj
      simp [this]
    · have hil : i ∈ l := by
        rcases List.mem_cons.1 h with h | h
        · exact absurd h.symm hx
        · exact h
      obtain ⟨A, B, L1, L2, h0, h1, h2, h3⟩ := filter_split hp.2 hil hi
      by_cases hpx : p x = true
      · refine ⟨x :: A, B, x :: L1, L2, by rw [h0]; rfl, by simp [hpx, h1], fun j hj => ?_, by simp [hpx, hx, h3]⟩
        rcases List.mem_cons.1 hj with rfl | hj
        · exact ⟨hpx, by simp⟩
        · obtain ⟨b, c⟩ := h2 j hj
          exact ⟨b, by simp [c]⟩
      · refine ⟨x :: A, B, L1, L2, by rw [h0]; rfl, by simp [hpx, h1], fun j hj => ?_, by simp [hpx, h3]⟩
        obtain ⟨b, c⟩ := h2 j hj
        exact ⟨b, by simp [c]⟩
def Closed (l : List Oper) (listed : Array Bool) : Prop := ∀ (j : Nat) (oj : Oper), l[j]? = some oj → listed.getD j true = true → ∀ e ∈ oj.after, Region.binds .any e = true → listed.getD e.on false = true
theorem getD_both' {listed : Array Bool} {i : Nat} (hi : i < listed.size) (a b : Bool) : listed.getD i a = listed.getD i b := by simp [hi]
theorem nodup_of_split {σ : List Nat} (h : ∀ σ1 i σ2, σ = σ1 ++ i :: σ2 → i ∉ σ1) : σ.Nodup := by
  induction σ with
  | nil => exact List.nodup_nil
  | cons x σ ih =>
    refine List.nodup_cons.2 ⟨fun hx => ?_, ih fun σ1 i σ2 e => ?_⟩
    · obtain ⟨s, t, e⟩ := List.append_of_mem hx
      exact h (x :: s) x t (by rw [e]; rfl) (by simp)
    · have := h (x :: σ1) i σ2 (by rw [e]; rfl)
      exact fun hi => this (by simp [hi])
structure Order (Λ : List Nat) (l : List Oper) (σ : List Nat) : Prop where
  nodup : σ.Nodup
  mem : ∀ i, i ∈ σ ↔ i < l.length
  walked : ∀ σ1 i σ2, σ = σ1 ++ i :: σ2 → Walked Λ l l.toArray σ1 i
theorem nodup_full {n : Nat} : ∀ {σ : List Nat}, σ.Nodup → (∀ i ∈ σ, i < n) → σ.length = n → ∀ i, i < n → i ∈ σ := by
  intro σ hn hlt hl i hi
  rcases Classical.em (i ∈ σ) with h | h
  · exact h
  · exfalso
    have h2 : (i :: σ).Nodup := List.nodup_cons.2 ⟨h, hn⟩
    have hsub : (i :: σ) ⊆ List.range n := by
      intro j hj
      rcases List.mem_cons.1 hj with rfl | hj
      · exact List.mem_range.2 hi
      · exact List.mem_range.2 (hlt j hj)
    have : ∀ {l m : List Nat}, l.Nodup → l ⊆ m → l.length ≤ m.length := by
      intro l
      induction l with
      | nil => intro m _ _; exact Nat.zero_le _
      | cons x l ih =>
        intro m hl hs
        rw [List.nodup_cons] at hl
        have hx : x ∈ m := hs (by simp)
        have := ih (m := m.erase x) hl.2 (fun y hy => (List.mem_erase_of_ne (fun e => hl.1 (by rw [← e]; exact hy))).2 (hs (by simp [hy])))
        rw [List.length_erase_of_mem hx] at this
        have : 0 < m.length := List.length_pos_of_mem hx
        simp only [List.length_cons]; omega
    have := this h2 hsub
    simp only [List.length_cons, List.length_range] at this
    omega
theorem order_ok {l : List Oper} {σ : List Nat} (hB : pairsB Λ l σ = true) : Region.noSelect l.toArray = true ∧ Order Λ l σ := by
  simp only [pairsB, Bool.and_eq_true] at hB
  obtain ⟨⟨hs, hl⟩, hw⟩ := hB
  have hwalk := fun σ1 i σ2 e => walk_ok (pre := []) hw (fun j => by simp [olook]) (fun j => by simp) (fun i k hk => by cases hk) σ1 i σ2 e
  simp only [List.nil_append] at hwalk
  have hnd : σ.Nodup := nodup_of_split fun σ1 i σ2 e => (hwalk σ1 i σ2 e).new
  have hlt : ∀ i ∈ σ, i < l.length := by
    intro i hi
    obtain ⟨s, t, e⟩ := List.append_of_mem hi
    obtain ⟨o, ho⟩ := (hwalk s i t e).here
    exact (List.getElem?_eq_some_iff.1 ho).1
  exact ⟨hs, hnd, fun i => ⟨hlt i, nodup_full hnd hlt (nbeq.1 hl) i⟩, hwalk⟩
theorem wpAny_of_pairs {l : List Oper} {σ : List Nat} (hsel : Region.noSelect l.toArray = true) (hO : Order Λ l σ) : ∀ (n : Nat) (listed : Array Bool) (a : Act) (w : World), listed.size = l.length → Closed l listed → (unl σ listed).length = n →
    wp2s P Λ l.toArray Q (unl σ listed) a w → wpAny P .any l.toArray (strict Q) n listed a w := by
  have hanc : ∀ (listed : Array Bool), listed.size = l.length → Closed l listed → ∀ (i j : Nat), Anc l i j → ∀ o, l[i]? = some o → (∀ e ∈ o.after, Region.binds .any e = true → listed.getD e.on false = true) → listed.getD j false = true := by
    intro listed hsz hcl i j h
    induction h with
    | dep h1 h2 h3 => intro o' ho' hr; rw [h1] at ho'; cases ho'; exact hr _ h2 h3
    | @step i j o e h1 h2 h3 _ ih =>
      intro o' ho' hr
      rw [h1] at ho'; cases ho'
      have hle := hr _ h2 h3
      have hlt : e.on < listed.size := by
        rcases Nat.lt_or_ge e.on listed.size with h | h
        · exact h
        · simp [Array.getElem?_eq_none h] at hle
      have hol : l[e.on]? = some (l[e.on]'(by omega)) := List.getElem?_eq_getElem (by omega)
      exact ih _ hol (fun e' he' hb' => hcl e.on _ hol (by rw [getD_both' hlt true false]; exact hle) e' he' hb')
  intro n
  induction n with
  | zero =>
    intro listed a w hsz hcl hn h
    have hU : unl σ listed = [] := List.eq_nil_of_length_eq_zero hn
    rw [hU] at h
    refine ⟨?_, h⟩
    cases hr : Region.ready .any l.toArray listed with
    | nil => rfl
    | cons x xs =>
      have hx : x ∈ Region.ready .any l.toArray listed := by rw [hr]; simp
      obtain ⟨h0, o, ho, _⟩ := mem_ready.1 hx
      have hx' : x < l.length := by simpa using (Array.getElem?_eq_some_iff.1 ho).1
      have : x ∈ unl σ listed := List.mem_filter.2 ⟨(hO.mem x).2 hx', by rw [h0]; rfl⟩
      rw [hU] at this; cases this
  | succ n ih =>
    intro listed a w hsz hcl hn h
    refine ⟨fun hr => ?_, fun i hi => ?_⟩
    · exfalso
      cases hU : unl σ listed with
      | nil => rw [hU] at hn; cases hn
      | cons k r =>
        have hk : k ∈ unl σ listed := by rw [hU]; simp
        obtain ⟨hk1, hk2⟩ := List.mem_filter.1 hk
        have hkl := (hO.mem k).1 hk1
        obtain ⟨A, B, L1, L2, e0, e1, e2, _⟩ := filter_split (p := fun i => !listed.getD i true) hO.nodup hk1 hk2
        have hL1 : L1 = [] := by
          have e1' : unl σ listed = L1 ++ k :: L2 := e1
          rw [hU] at e1'
          cases L1 with
          | nil => rfl
          | cons y L1 =>
            injection e1' with e3 e4
            subst e3
            obtain ⟨_, hA⟩ := e2 k (by simp)
            exact absurd hA (hO.walked A k B e0).new
        have hwk := hO.walked A k B e0
        have hok : l[k]? = some l[k] := List.getElem?_eq_getElem hkl
        have : k ∈ Region.ready .any l.toArray listed := by
          refine mem_ready.2 ⟨by simpa using hk2, l[k], by simp, fun e he hb => ?_⟩
          have hd := hwk.deps _ hok e he hb
          have hdl : e.on < l.length := (hO.mem _).1 (by rw [e0]; simp [hd])
          cases hle : listed.getD e.on true with
          | true => rw [getD_both' (by omega) false true]; exact hle
          | false =>
            exfalso
            -- what is not listed ahead of it would stand ahead of it in the filter
            have hmem : e.on ∈ A.filter (fun i => !listed.getD i true) := List.mem_filter.2 ⟨hd, by rw [hle]; rfl⟩
            have e5 : σ.filter (fun i => !listed.getD i true) = A.filter (fun i => !listed.getD i true) ++ (k :: B).filter (fun i => !listed.getD i true) := by
              conv => lhs; rw [e0]
              rw [List.filter_append]
            have e6 : unl σ listed = A.filter (fun i => !listed.getD i true) ++ (k :: B).filter (fun i => !listed.getD i true) := e5
            rw [hU] at e6
            cases hA : A.filter (fun i => !listed.getD i true) with
            | nil => rw [hA] at hmem; cases hmem
            | cons y ys =>
              rw [hA] at e6
              injection e6 with e7 _
              have : y ∈ A := (List.mem_filter.1 (by rw [hA]; simp : y ∈ A.filter _)).1
              rw [← e7] at this
              exact hwk.new this
        rw [hr] at this; cases this
    · obtain ⟨h0, o, ho, hall⟩ := mem_ready.1 hi
      have ho' : l[i]? = some o := by simpa using ho
      have hil : i < l.length := (List.getElem?_eq_some_iff.1 ho').1
      obtain ⟨A, B, L1, L2, e0, e1, e2, e3⟩ := filter_split (p := fun i => !listed.getD i true) (i := i) hO.nodup ((hO.mem i).2 hil) (by rw [h0]; rfl)
      have hU : unl σ listed = L1 ++ i :: L2 := e1
      have hU' : unl σ (listed.setIfInBounds i true) = L1 ++ L2 := by
        rw [← e3]
        refine List.filter_congr fun j hj => ?_
        by_cases hji : j = i
        · subst hji
          have : j < listed.size := by omega
          simp [this]
        · rw [getD_set_ne true (fun e => hji e.symm)]
          have : (j != i) = true := by simp [hji]
          rw [this, Bool.and_true]
      rw [hU] at h
      have h2 := wp2s_bubble (oi := o) ho (Region.noSelect_spec hsel) (fun j hj => ?_) h
      · refine wpOp_of_wp2 (wp2_mono (fun a' w' h' => ih (listed.setIfInBounds i true) a' w' (by simp [hsz]) ?_ ?_ (by rw [hU']; exact h')) h2)
        · intro j oj hj hl e he hb
          by_cases hji : j = i
          · subst hji
            rw [ho'] at hj; cases hj
            exact getD_set_true (hall e he hb)
          · rw [getD_set_ne true (fun e => hji e.symm)] at hl
            exact getD_set_true (hcl j oj hj hl e he hb)
        · rw [hU']
          rw [hU] at hn
          simp only [List.length_append, List.length_cons] at hn ⊢
          omega
      · obtain ⟨hun, hjA⟩ := e2 j hj
        have hjl : j < l.length := (hO.mem j).1 (by rw [e0]; simp [hjA])
        rcases (hO.walked A i B e0).comm j hjA with hp | ⟨oj, oi, k1, k2, k3⟩
        · have := hanc listed hsz hcl i j hp o ho' hall
          rw [getD_both' (by omega) false true] at this
          rw [this] at hun; cases hun
        · rw [ho'] at k2; cases k2
          exact ⟨oj, by simpa using k1, k3⟩
theorem wp_region_pairs {id : Nat} {l : List Oper} {σ : List Nat} (hm : P.follows .mixedOrders = true) (hB : pairsB Λ l σ = true) {Q : Exit → Act → World → Prop} {a : Act}
    (h : wp2s P Λ l.toArray (Q .normal) σ a { w with drawn := w.drawn + 1 }) : (Code.region id l.toArray true).wp P Q a w := by
  obtain ⟨hsel, hO⟩ := order_ok hB
  refine Code.wp_mono (Q := strict (Q .normal)) (fun e a w h => by cases e <;> first | exact h | exact h.elim) (wp_region_any hm ?_)
  have hU : unl σ (Array.replicate l.length false) = σ := by
    unfold unl
    rw [List.filter_eq_self]
    intro i hi
    have := (hO.mem i).1 hi
    simp [this]
  have hlen : σ.length = l.length := by
    simp only [pairsB, Bool.and_eq_true] at hB
    exact nbeq.1 hB.1.2
  refine wpAny_of_pairs hsel hO _ _ _ _ (by simp) (fun j oj hj hl => ?_) (by simp [hU, hlen]) (by rw [List.size_toArray, hU]; exact h)
  have : j < l.length := (List.getElem?_eq_some_iff.1 hj).1
  simp [this] at hl
end Go.Proofs.YtnldcpanpojeiaaGreatDoor
