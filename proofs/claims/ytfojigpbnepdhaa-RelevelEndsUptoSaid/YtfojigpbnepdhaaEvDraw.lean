/-
  Regions whose order is drawn: what holds in the order in which the operations are listed holds in each order that may be drawn,
  where each two operations of which neither waits for the other may change places.
-/
import Derived.Test.YtfojigpbnepdhaaEvCode
namespace Go.Proofs.Ytfojigpbnepdhaa
open Go.RowKit

variable {P : Program} {ops : Array Oper} {w w' : World} {Q : Act → World → Prop}

def YH (P : Program) (ops : Array Oper) (o : Oper) (v : Value) (a : Act) (w : World) : Prop :=
  (Region.wanted o (yielded ops a.tmps) = true ∧ Yields P o a w v ∧ (isLight o = true → ∀ w' : World, (execOp a.eval o).run P w' = .ok (.value v) w')) ∨ (Region.wanted o (yielded ops a.tmps) = false ∧ v = undef)

def strict (Q : Act → World → Prop) : Exit → Act → World → Prop
  | .normal, a, w => Q a w
  | _, _, _ => False

theorem strict_out : ¬ LetsOut (strict Q) := fun ⟨_, _, h⟩ => h

def wp2 (P : Program) (ops : Array Oper) (Q : Act → World → Prop) (i : Nat) (K : Act → World → Prop) (a : Act) (w : World) : Prop :=
  match ops[i]? with
  | none => K a w
  | some o =>
    if softOp o then ∃ v, YH P ops o v a w ∧ K (a.put o.dst v) w
    else if Region.wanted o (yielded ops a.tmps) then o.wp P a w K (strict Q) else K (a.put o.dst undef) w

def wp2s (P : Program) (ops : Array Oper) (Q : Act → World → Prop) : List Nat → Act → World → Prop
  | [], a, w => Q a w
  | i :: r, a, w => wp2 P ops Q i (wp2s P ops Q r) a w

theorem YH.same {o : Oper} {v : Value} {a a' : Act} (h : YH P ops o v a w) (he : execOp a'.eval o = execOp a.eval o) (hw : Region.wanted o (yielded ops a'.tmps) = Region.wanted o (yielded ops a.tmps)) : YH P ops o v a' w := by
  unfold YH Yields at *
  rw [he, hw]; exact h

theorem YH.uniq {o : Oper} {u v : Value} {a : Act} (h : YH P ops o u a w) (k : YH P ops o v a w) : u = v := by
  rcases h with ⟨h1, h2, _⟩ | ⟨h1, rfl⟩ <;> rcases k with ⟨k1, k2, _⟩ | ⟨k1, rfl⟩
  · have a1 := h2 w rfl
    rw [k2 w rfl] at a1
    injection a1 with a1
    injection a1 with a1
    exact a1.symm
  · rw [h1] at k1; cases k1
  · rw [h1] at k1; cases k1
  · rfl

theorem light_quiet {o : Oper} (h : isLight o = true) : softOp o = true := by unfold softOp; rw [h, Bool.or_true]

theorem YH.all {o : Oper} {v : Value} {a : Act} (hm : isLight o = true) (h : YH P ops o v a w) (w' : World) : YH P ops o v a w' := by
  rcases h with ⟨h1, _, h2⟩ | h
  · exact .inl ⟨h1, fun w'' _ => h2 hm w'', h2⟩
  · exact .inr h

theorem YH.put {oi oj : Oper} {u x : Value} {a : Act} (hs : ∀ cs b, oi.op ≠ .select cs b) (h : ∀ d, oj.dst = some d → d ∉ oi.looksAt ops) : YH P ops oi u (a.put oj.dst x) w ↔ YH P ops oi u a w := by
  constructor
  · exact fun k => k.same (execOp_put oi hs a oj.dst x h).symm (wanted_put oi a oj.dst x h).symm
  · exact fun k => k.same (execOp_put oi hs a oj.dst x h) (wanted_put oi a oj.dst x h)

theorem wp2_mono {i : Nat} {K K' : Act → World → Prop} (hK : ∀ a w, K a w → K' a w) {a : Act} (h : wp2 P ops Q i K a w) : wp2 P ops Q i K' a w := by
  unfold wp2 at *
  split
  · simp only [*] at h; exact hK _ _ h
  · rename_i o ho
    simp only [ho] at h
    split
    · rename_i hq
      rw [if_pos hq] at h
      obtain ⟨v, h1, h2⟩ := h
      exact ⟨v, h1, hK _ _ h2⟩
    · rename_i hq
      rw [if_neg hq] at h
      split
      · rename_i hw
        rw [if_pos hw] at h
        exact Oper.wp_mono hK h
      · rename_i hw
        rw [if_neg hw] at h
        exact hK _ _ h

/-- an operation that goes well comes to an end -/
theorem reaches {o : Oper} {a : Act} {K : Act → World → Prop} (h : o.wp P a w K (strict Q)) : ∃ (b : Act) (x : Value) (w' : World), (b = a ∨ ∃ d, b = { a with defers := d :: a.defers }) ∧ K (b.put o.dst x) w' := by
  unfold Oper.wp at h
  generalize (execOp a.eval o).run P w = r at h
  cases r with
  | ok n w' =>
    cases n <;> simp only [Oper.upon] at h
    case value x => exact ⟨a, x, w', .inl rfl, h⟩
    case skip => exact ⟨a, _, w', .inl rfl, h⟩
    case defer d => exact ⟨_, _, w', .inr ⟨d, rfl⟩, h⟩
    case enter f args =>
      obtain ⟨e, w'', _, he, _⟩ := h []
      cases e with
      | returned v => exact ⟨a, v, w'', .inl rfl, he⟩
      | panicked c => exact he.elim
      | outgrown => exact (strict_out he).elim
    case row row args =>
      obtain ⟨v, w'', he, _⟩ := h (Frame.enter P 0 #[] .normal) []
      exact ⟨a, v, w'', .inl rfl, he⟩
  | halt x w' =>
    cases x <;> simp only [Oper.upon] at h
    case panic u => exact h.elim

theorem wp2_swap {i j : Nat} {oi oj : Oper} (hi : ops[i]? = some oi) (hj : ops[j]? = some oj) (hsi : ∀ cs b, oi.op ≠ .select cs b) (hsj : ∀ cs b, oj.op ≠ .select cs b) (hc : commB ops oj oi = true) {K : Act → World → Prop} {a : Act}
    (h : wp2 P ops Q j (wp2 P ops Q i K) a w) : wp2 P ops Q i (wp2 P ops Q j K) a w := by
  unfold commB at hc
  simp only [Bool.and_eq_true, Bool.or_eq_true] at hc
  obtain ⟨hap, hc⟩ := hc
  obtain ⟨p1, p2, p3⟩ := Oper.apart_spec hap
  have comm : ∀ (a : Act) (v u : Value), (a.put oj.dst v).put oi.dst u = (a.put oi.dst u).put oj.dst v := fun a v u => Act.put_comm a v u p2
  by_cases qj : softOp oj = true
  · by_cases qi : softOp oi = true
    · unfold wp2 at h ⊢
      simp only [hi, hj, if_pos qi, if_pos qj] at h ⊢
      obtain ⟨v, h1, u, h3, h4⟩ := h
      refine ⟨u, (YH.put hsi p1).1 h3, ?_⟩
      exact ⟨v, (YH.put hsj p3).2 h1, by rw [← comm]; exact h4⟩
    · have mj : isLight oj = true := by
        rcases hc with (hc | hc) | hc
        · exact absurd hc.2 qi
        · exact hc
        · exact absurd (light_quiet hc) qi
      have h' : ∃ v, YH P ops oj v a w ∧ wp2 P ops Q i K (a.put oj.dst v) w := by
        generalize wp2 P ops Q i K = R at h ⊢
        unfold wp2 at h
        simp only [hj, if_pos qj] at h
        exact h
      obtain ⟨v, h1, h2⟩ := h'
      have hv' : ∀ w', YH P ops oj v a w' := h1.all mj
      have hgoal : ∀ R : Act → World → Prop, (if Region.wanted oi (yielded ops a.tmps) = true then oi.wp P a w R (strict Q) else R (a.put oi.dst undef) w) → wp2 P ops Q i R a w := by
        intro R hR
        unfold wp2
        simp only [hi, if_neg qi]
        exact hR
      refine hgoal _ ?_
      unfold wp2 at h2
      simp only [hi, if_neg qi] at h2
      rw [wanted_put oi a oj.dst v p1] at h2
      have done : ∀ (b : Act) (u : Value) (w' : World), (∀ w', YH P ops oj v b w') → K ((b.put oj.dst v).put oi.dst u) w' → wp2 P ops Q j K (b.put oi.dst u) w' := by
        intro b u w' hb hk
        unfold wp2
        simp only [hj, if_pos qj]
        exact ⟨v, (YH.put hsj p3).2 (hb w'), by rw [← comm]; exact hk⟩
      split
      · rename_i hw
        rw [if_pos hw] at h2
        unfold Oper.wp at *
        rw [execOp_put oi hsi a oj.dst v p1] at h2
        generalize (execOp a.eval oi).run P w = r at *
        cases r with
        | ok n w' =>
          cases n <;> simp only [Oper.upon] at h2 ⊢
          case value u => exact done _ _ _ hv' h2
          case skip => exact done _ _ _ hv' h2
          case defer d =>
            refine done _ _ _ (fun w' => (hv' w').same rfl rfl) ?_
            rw [← Act.put_defers]
            exact h2
          case enter f args =>
            refine Calls.mono h2 fun e w'' he => ?_
            cases e with
            | returned u => exact done _ _ _ hv' he
            | panicked c => exact he
            | outgrown => exact he
          case row row args => exact Rows.mono h2 fun u w'' he => done _ _ _ hv' he
        | halt x w' =>
          cases x <;> simp only [Oper.upon] at h2 ⊢
          case panic u => exact h2
      · rename_i hw
        rw [if_neg hw] at h2
        exact done _ _ _ hv' h2
  · have mi : isLight oi = true := by
      rcases hc with (hc | hc) | hc
      · exact absurd hc.1 qj
      · exact absurd (light_quiet hc) qj
      · exact hc
    have qi := light_quiet mi
    have h : (if Region.wanted oj (yielded ops a.tmps) = true then oj.wp P a w (wp2 P ops Q i K) (strict Q) else wp2 P ops Q i K (a.put oj.dst undef) w) := by
      generalize wp2 P ops Q i K = R at h ⊢
      unfold wp2 at h
      simp only [hj, if_neg qj] at h
      exact h
    obtain ⟨u, hu⟩ : ∃ u, ∀ w', YH P ops oi u a w' := by
      have one : ∀ {b : Act} {x : Value} {w' : World}, (b = a ∨ ∃ d, b = { a with defers := d :: a.defers }) → wp2 P ops Q i K (b.put oj.dst x) w' → ∃ u, ∀ w', YH P ops oi u a w' := by
        intro b x w' hb hk
        unfold wp2 at hk
        simp only [hi, if_pos qi] at hk
        obtain ⟨u, k1, _⟩ := hk
        have k2 := (YH.put hsi p1).1 k1
        refine ⟨u, fun w'' => ?_⟩
        rcases hb with rfl | ⟨d, rfl⟩
        · exact k2.all mi w''
        · exact (k2.same (a' := a) rfl rfl).all mi w''
      split at h
      · obtain ⟨b, x, w', hb, hk⟩ := reaches h
        exact one hb hk
      · exact one (.inl rfl) h
    have back : ∀ (b : Act) (x : Value) (w' : World), (∀ w', YH P ops oi u b w') → wp2 P ops Q i K (b.put oj.dst x) w' → K ((b.put oi.dst u).put oj.dst x) w' := by
      intro b x w' hb hk
      unfold wp2 at hk
      simp only [hi, if_pos qi] at hk
      obtain ⟨u', k1, k2⟩ := hk
      have : u' = u := ((YH.put hsi p1).1 k1).uniq (hb w')
      subst this
      rw [← comm]; exact k2
    have goal : wp2 P ops Q j K (a.put oi.dst u) w := by
      unfold wp2
      simp only [hj, if_neg qj]
      rw [wanted_put oj a oi.dst u p3]
      split
      · rename_i hw
        rw [if_pos hw] at h
        unfold Oper.wp at *
        rw [execOp_put oj hsj a oi.dst u p3]
        generalize (execOp a.eval oj).run P w = r at *
        cases r with
        | ok n w' =>
          cases n <;> simp only [Oper.upon] at h ⊢
          case value x => exact back _ _ _ hu h
          case skip => exact back _ _ _ hu h
          case defer d =>
            rw [Act.put_defers]
            exact back _ _ _ (fun w' => (hu w').same rfl rfl) h
          case enter f args =>
            refine Calls.mono h fun e w'' he => ?_
            cases e with
            | returned x => exact back _ _ _ hu he
            | panicked c => exact he
            | outgrown => exact he
          case row row args => exact Rows.mono h fun x w'' he => back _ _ _ hu he
        | halt x w' =>
          cases x <;> simp only [Oper.upon] at h ⊢
          case panic u => exact h
      · rename_i hw
        rw [if_neg hw] at h
        exact back _ _ _ hu h
    generalize wp2 P ops Q j K = R at goal ⊢
    unfold wp2
    simp only [hi, if_pos qi]
    exact ⟨u, hu w, goal⟩

theorem wp2s_bubble {i : Nat} {oi : Oper} (hi : ops[i]? = some oi) (hsel : ∀ (j : Nat) (o : Oper) cs b, ops[j]? = some o → o.op ≠ .select cs b) {L2 : List Nat} : ∀ {L1 : List Nat} {a : Act} {w : World}, (∀ j ∈ L1, ∃ oj, ops[j]? = some oj ∧ commB ops oj oi = true) →
    wp2s P ops Q (L1 ++ i :: L2) a w → wp2 P ops Q i (wp2s P ops Q (L1 ++ L2)) a w
  | [], _, _, _, h => h
  | j :: L1, a, w, hL, h => by
    have h' : wp2 P ops Q j (wp2s P ops Q (L1 ++ i :: L2)) a w := h
    obtain ⟨oj, hj, hc⟩ := hL j (by simp)
    exact wp2_swap hi hj (fun cs b => hsel i oi cs b hi) (fun cs b => hsel j oj cs b hj) hc (wp2_mono (fun a w h => wp2s_bubble hi hsel (fun k hk => hL k (by simp [hk])) h) h')

theorem wpOp_of_wp2 {i : Nat} {K : Act → World → Prop} {a : Act} (h : wp2 P ops Q i K a w) : wpOp P ops (strict Q) i K a w := by
  unfold wp2 at h
  unfold wpOp
  split
  · simp only [*] at h; exact h
  · rename_i o ho
    simp only [ho] at h
    split at h
    · obtain ⟨v, h1, h2⟩ := h
      rcases h1 with ⟨hw, hy, _⟩ | ⟨hw, rfl⟩
      · rw [if_pos hw]
        refine .inl ?_
        unfold Oper.wp
        rw [hy w rfl]
        exact h2
      · rw [if_neg (by rw [hw]; simp)]
        exact h2
    · split at h
      · rename_i hw
        rw [if_pos hw]
        exact .inl h
      · rename_i hw
        rw [if_neg hw]
        exact h

theorem ancOf_bit {acc : List Nat} {o : Oper} {j : Nat} (h : (ancOf acc o).testBit j = true) : ∃ e ∈ o.after.toList, Region.binds .any e = true ∧ (e.on = j ∨ (acc.getD e.on 0).testBit j = true) := by
  have key : ∀ (l : List Edge) (m : Nat), (l.foldl (fun m e => if Region.binds .any e then m ||| (2 ^ e.on ||| acc.getD e.on 0) else m) m).testBit j = true →
      m.testBit j = true ∨ ∃ e ∈ l, Region.binds .any e = true ∧ (e.on = j ∨ (acc.getD e.on 0).testBit j = true) := by
    intro l
    induction l with
    | nil => intro m h; exact .inl h
    | cons e l ih =>
      intro m h
      rw [List.foldl_cons] at h
      rcases ih _ h with h | ⟨e', h1, h2⟩
      · by_cases hb : Region.binds .any e = true
        · rw [if_pos hb, Nat.testBit_or, Nat.testBit_or, Nat.testBit_two_pow] at h
          simp only [Bool.or_eq_true, decide_eq_true_eq] at h
          rcases h with h | h | h
          · exact .inl h
          · exact .inr ⟨e, by simp, hb, .inl h⟩
          · exact .inr ⟨e, by simp, hb, .inr h⟩
        · rw [if_neg hb] at h; exact .inl h
      · exact .inr ⟨e', by simp [h1], h2⟩
  rcases key _ _ h with h | h
  · simp at h
  · exact h

theorem ancs_get : ∀ (l : List Oper) (acc : List Nat), (ancs l acc).length = acc.length + l.length ∧ (ancs l acc).take acc.length = acc ∧
    ∀ k o, l[k]? = some o → (ancs l acc).getD (acc.length + k) 0 = ancOf ((ancs l acc).take (acc.length + k)) o
  | [], acc => ⟨rfl, List.take_length, fun k o h => by simp at h⟩
  | o :: l, acc => by
    obtain ⟨h1, h2, h3⟩ := ancs_get l (acc ++ [ancOf acc o])
    rw [List.length_append, List.length_singleton] at h1 h2
    have e : ancs (o :: l) acc = ancs l (acc ++ [ancOf acc o]) := rfl
    rw [e]
    have ht : (ancs l (acc ++ [ancOf acc o])).take acc.length = acc := by
      have := congrArg (List.take acc.length) h2
      rw [List.take_take, List.take_append_of_le_length (Nat.le_refl _), List.take_length, Nat.min_eq_left (by omega)] at this
      exact this
    refine ⟨by rw [h1, List.length_cons]; omega, ht, fun k o' hk => ?_⟩
    cases k with
    | zero =>
      cases hk
      have hg : (ancs l (acc ++ [ancOf acc o]))[acc.length]? = some (ancOf acc o) := by
        have := congrArg (·[acc.length]?) h2
        rw [List.getElem?_take, if_pos (by omega)] at this
        rw [this]; simp
      rw [Nat.add_zero, ht, List.getD_eq_getElem?_getD, hg]; rfl
    | succ k =>
      have := h3 k o' (by simpa using hk)
      rw [List.length_append, List.length_singleton, Nat.add_assoc, Nat.add_comm 1 k] at this
      exact this

/-! ### all orders -/
def unl (n : Nat) (listed : Array Bool) : List Nat := (List.range n).filter fun i => !listed.getD i true

theorem filter_split {p : Nat → Bool} {i : Nat} : ∀ {l : List Nat}, l.Pairwise (· < ·) → i ∈ l → p i = true → ∃ L1 L2, l.filter p = L1 ++ i :: L2 ∧ (∀ j ∈ L1, j < i ∧ p j = true ∧ j ∈ l) ∧ l.filter (fun j => p j && j != i) = L1 ++ L2
  | [], _, h, _ => by cases h
  | x :: l, hp, h, hi => by
    rw [List.pairwise_cons] at hp
    by_cases hx : x = i
    · subst hx
      refine ⟨[], l.filter p, by simp [hi], by simp, ?_⟩
      rw [List.filter_cons]
      simp only [bne_self_eq_false, Bool.and_false, Bool.false_eq_true, if_false, List.nil_append]
      refine List.filter_congr fun j hj => ?_
      have := hp.1 j hj
      have : (j != x) = true := by simp; omega
      simp [this]
    · have hil : i ∈ l := by
        rcases List.mem_cons.1 h with h | h
        · exact absurd h.symm hx
        · exact h
      obtain ⟨L1, L2, h1, h2, h3⟩ := filter_split hp.2 hil hi
      have hne : (x != i) = true := by simp [hx]
      by_cases hpx : p x = true
      · refine ⟨x :: L1, L2, by simp [hpx, h1], fun j hj => ?_, by simp [hpx, hx, h3]⟩
        rcases List.mem_cons.1 hj with rfl | hj
        · exact ⟨hp.1 i hil, hpx, by simp⟩
        · obtain ⟨a, b, c⟩ := h2 j hj
          exact ⟨a, b, by simp [c]⟩
      · refine ⟨L1, L2, by simp [hpx, h1], fun j hj => ?_, by simp [hpx, h3]⟩
        obtain ⟨a, b, c⟩ := h2 j hj
        exact ⟨a, b, by simp [c]⟩

def Closed (l : List Oper) (listed : Array Bool) : Prop := ∀ (j : Nat) (oj : Oper), l[j]? = some oj → listed.getD j true = true → ∀ e ∈ oj.after, Region.binds .any e = true → listed.getD e.on false = true

theorem wpAny_of_pairs {l : List Oper} (hB : pairsB l = true) : ∀ (n : Nat) (listed : Array Bool) (a : Act) (w : World), listed.size = l.length → Closed l listed → (unl l.length listed).length = n →
    wp2s P l.toArray Q (unl l.length listed) a w → wpAny P .any l.toArray (strict Q) n listed a w := by
  simp only [pairsB, Bool.and_eq_true] at hB
  obtain ⟨⟨hsel, hdep⟩, hpair⟩ := hB
  obtain ⟨hA1, _, hA3⟩ := ancs_get l []
  simp only [List.length_nil, Nat.zero_add] at hA1 hA3
  generalize hA : ancs l [] = A at *
  have hdeps : ∀ (i : Nat) (o : Oper), l[i]? = some o → ∀ e ∈ o.after, Region.binds .any e = true → e.on < i := by
    intro i o ho e he hb
    unfold depsB at hdep
    have := List.all_eq_true.1 hdep i (List.mem_range.2 (List.getElem?_eq_some_iff.1 ho).1)
    rw [ho] at this
    have := List.all_eq_true.1 this e (by simpa using he)
    simpa [hb] using this
  -- what an operation waits for, on whatever way, is listed when it is ready
  have hanc : ∀ (listed : Array Bool), listed.size = l.length → Closed l listed → ∀ (i : Nat) (o : Oper), l[i]? = some o → (∀ e ∈ o.after, Region.binds .any e = true → listed.getD e.on false = true) → ∀ j, (A.getD i 0).testBit j = true → listed.getD j false = true := by
    intro listed hsz hcl i
    induction i using Nat.strongRecOn with
    | _ i ih =>
      intro o ho hr j hj
      rw [hA3 i o ho] at hj
      obtain ⟨e, h1, h2, h3⟩ := ancOf_bit hj
      have he : e ∈ o.after := by simpa using h1
      rcases h3 with h3 | h3
      · rw [← h3]; exact hr e he h2
      · have hlt := hdeps i o ho e he h2
        have hil : i < l.length := (List.getElem?_eq_some_iff.1 ho).1
        have hg : (A.take i).getD e.on 0 = A.getD e.on 0 := by
          rw [List.getD_eq_getElem?_getD, List.getD_eq_getElem?_getD, List.getElem?_take, if_pos hlt]
        rw [hg] at h3
        have hol : l[e.on]? = some l[e.on] := List.getElem?_eq_getElem (by omega)
        have hle := hr e he h2
        refine ih e.on hlt _ hol (fun e' he' hb' => hcl e.on _ hol ?_ e' he' hb') j h3
        have : e.on < listed.size := by omega
        simp [this] at hle ⊢; exact hle
  intro n
  induction n with
  | zero =>
    intro listed a w hsz hcl hn h
    have hU : unl l.length listed = [] := List.eq_nil_of_length_eq_zero hn
    rw [hU] at h
    refine ⟨?_, h⟩
    cases hr : Region.ready .any l.toArray listed with
    | nil => rfl
    | cons x xs =>
      have hx : x ∈ Region.ready .any l.toArray listed := by rw [hr]; simp
      obtain ⟨h0, o, ho, _⟩ := mem_ready.1 hx
      have hx' : x < l.length := by simpa using (Array.getElem?_eq_some_iff.1 ho).1
      have : x ∈ unl l.length listed := List.mem_filter.2 ⟨List.mem_range.2 hx', by rw [h0]; rfl⟩
      rw [hU] at this; cases this
  | succ n ih =>
    intro listed a w hsz hcl hn h
    refine ⟨fun hr => ?_, fun i hi => ?_⟩
    · exfalso
      cases hU : unl l.length listed with
      | nil => rw [hU] at hn; cases hn
      | cons k r =>
        have hk : k ∈ unl l.length listed := by rw [hU]; simp
        obtain ⟨hk1, hk2⟩ := List.mem_filter.1 hk
        have hkl := List.mem_range.1 hk1
        have hleast : ∀ j, j < k → listed.getD j false = true := by
          intro j hj
          cases hjl : listed.getD j true with
          | true =>
            have : j < listed.size := by omega
            simp [this] at hjl ⊢; exact hjl
          | false =>
            have hm : j ∈ unl l.length listed := List.mem_filter.2 ⟨List.mem_range.2 (by omega), by rw [hjl]; rfl⟩
            have hp : (unl l.length listed).Pairwise (· < ·) := List.Pairwise.filter _ List.pairwise_lt_range
            rw [hU] at hm hp
            rcases List.mem_cons.1 hm with rfl | hm
            · omega
            · have := (List.pairwise_cons.1 hp).1 j hm
              omega
        have hok : l[k]? = some l[k] := List.getElem?_eq_getElem hkl
        have : k ∈ Region.ready .any l.toArray listed := mem_ready.2 ⟨by simpa using hk2, l[k], by simp, fun e he hb => hleast _ (hdeps k _ hok e he hb)⟩
        rw [hr] at this; cases this
    · obtain ⟨h0, o, ho, hall⟩ := mem_ready.1 hi
      have ho' : l[i]? = some o := by simpa using ho
      have hil : i < l.length := (List.getElem?_eq_some_iff.1 ho').1
      obtain ⟨L1, L2, e1, e2, e3⟩ := filter_split (p := fun i => !listed.getD i true) (i := i) (l := List.range l.length) List.pairwise_lt_range (List.mem_range.2 hil) (by rw [h0]; rfl)
      have hU : unl l.length listed = L1 ++ i :: L2 := e1
      have hU' : unl l.length (listed.setIfInBounds i true) = L1 ++ L2 := by
        rw [← e3]
        refine List.filter_congr fun j hj => ?_
        by_cases hji : j = i
        · subst hji
          have : j < listed.size := by omega
          simp [this]
        · rw [getD_set_ne true (fun e => hji e.symm)]
          have : (j != i) = true := by simp [hji]
          rw [this, Bool.and_true]
      rw [hU] at h
      have h2 := wp2s_bubble (oi := o) ho (Region.noSelect_spec hsel) (fun j hj => ?_) h
      · refine wpOp_of_wp2 (wp2_mono (fun a' w' h' => ih (listed.setIfInBounds i true) a' w' (by simp [hsz]) ?_ ?_ (by rw [hU']; exact h')) h2)
        · intro j oj hj hl e he hb
          by_cases hji : j = i
          · subst hji
            rw [ho'] at hj; cases hj
            exact getD_set_true (hall e he hb)
          · rw [getD_set_ne true (fun e => hji e.symm)] at hl
            exact getD_set_true (hcl j oj hj hl e he hb)
        · rw [hU'] 
          rw [hU] at hn
          simp only [List.length_append, List.length_cons] at hn ⊢
          omega
      · obtain ⟨hlt, hun, hjr⟩ := e2 j hj
        have hjl := List.mem_range.1 hjr
        have hoj : l[j]? = some l[j] := List.getElem?_eq_getElem hjl
        refine ⟨l[j], by simp, ?_⟩
        have hp := List.all_eq_true.1 (List.all_eq_true.1 hpair i (List.mem_range.2 hil)) j (List.mem_range.2 hlt)
        simp only [hoj, ho', Bool.or_eq_true] at hp
        rcases hp with hp | hp
        · have := hanc listed hsz hcl i o ho' hall j hp
          have hjs : j < listed.size := by omega
          simp [hjs] at this hun
          rw [this] at hun; cases hun
        · exact hp

theorem wp_region_pairs {id : Nat} {l : List Oper} (hm : P.follows .mixedOrders = true) (hB : pairsB l = true) {Q : Exit → Act → World → Prop} {a : Act}
    (h : wp2s P l.toArray (Q .normal) (List.range l.length) a { w with drawn := w.drawn + 1 }) : (Code.region id l.toArray true).wp P Q a w := by
  refine Code.wp_mono (Q := strict (Q .normal)) (fun e a w h => by cases e <;> first | exact h | exact h.elim) (wp_region_any hm ?_)
  have hU : unl l.length (Array.replicate l.length false) = List.range l.length := by
    unfold unl
    rw [List.filter_eq_self]
    intro i hi
    have := List.mem_range.1 hi
    simp [this]
  refine wpAny_of_pairs hB _ _ _ _ (by simp) (fun j oj hj hl => ?_) (by simp [hU]) (by rw [List.size_toArray, hU]; exact h)
  have : j < l.length := (List.getElem?_eq_some_iff.1 hj).1
  simp [this] at hl

end Go.Proofs.Ytfojigpbnepdhaa
