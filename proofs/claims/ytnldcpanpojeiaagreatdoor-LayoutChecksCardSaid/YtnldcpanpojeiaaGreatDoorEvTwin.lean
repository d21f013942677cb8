/-
  Regions of two orders: two operations of which each may stand first, and don't change places; what holds in both orders holds.
-/
import Derived.Test.YtnldcpanpojeiaaGreatDoorEvMain
namespace Go.Proofs.YtnldcpanpojeiaaGreatDoor
open Go.RowKit
variable {P : Program} {Λ : List Nat} {ops : Array Oper} {G : Ctx} {A : Ann} {L : Nat → Option LoopAnn} {T : FuncId → Option Callee} {B : Nat} {X : Lnt} {w0 w w' : World} {S S' : Nat → Prop} {ν : Nat → Value} {st st' : St} {tmps : Array Value} {ds : List Deferred} {Q : Act → World → Prop}
structure WalkedX (ex : Nat → Nat → Bool) (Λ : List Nat) (l : List Oper) (ops : Array Oper) (pre : List Nat) (i : Nat) : Prop where
  deps : ∀ o, l[i]? = some o → ∀ e ∈ o.after, Region.binds .any e = true → e.on ∈ pre
  comm : ∀ j ∈ pre, Anc l i j ∨ ex j i = true ∨ ∃ oj oi, l[j]? = some oj ∧ l[i]? = some oi ∧ commB Λ ops oj oi = true
  here : ∃ o, l[i]? = some o
  new : i ∉ pre
theorem walkX_ok {ex : Nat → Nat → Bool} {l : List Oper} {ops : Array Oper} : ∀ {σ : List Nat} {done : List (Nat × Nat)} {pre : List Nat}, walkX ex Λ l ops σ done = true → (∀ j, j ∈ pre ↔ ∃ k, olook j done = some k) → (∀ j, j ∈ pre ↔ ∃ k, (j, k) ∈ done) → (∀ i k, olook i done = some k → ∀ j, k.testBit j = true → Anc l i j) →
    ∀ (σ1 : List Nat) (i : Nat) (σ2 : List Nat), σ = σ1 ++ i :: σ2 → WalkedX ex Λ l ops (pre ++ σ1) i
  | [], _, _, _, _, _, _, σ1, i, σ2, e => by cases σ1 <;> cases e
  | x :: σ, done, pre, hB, hd, hd', hm, σ1, i, σ2, e => by
    unfold walkX at hB
    split at hB
    · rename_i o ho
      simp only [Bool.and_eq_true] at hB
      obtain ⟨⟨hdep, hnew⟩, hc, hrest⟩ := hB
      have hx : ∀ j, (maskOf done o).testBit j = true → Anc l x j := by
        intro j hj
        obtain ⟨e, h1, h2, h3 | ⟨k, h3, h4⟩⟩ := maskOf_bit hj
        · rw [← h3]; exact .dep ho h1 h2
        · exact .step ho h1 h2 (hm _ _ h3 _ h4)
      have hxn : x ∉ pre := by
        intro hx
        obtain ⟨k, hk⟩ := (hd x).1 hx
        rw [hk] at hnew
        cases hnew
      cases σ1 with
      | nil =>
        cases e
        rw [List.append_nil]
        refine ⟨fun o' ho' e he hb => ?_, fun j hj => ?_, ⟨o, ho⟩, hxn⟩
        · rw [ho] at ho'; cases ho'
          have := List.all_eq_true.1 hdep e (by simpa using he)
          rw [hb] at this
          refine (hd _).2 ?_
          cases hk : olook e.on done with
          | some k => exact ⟨k, rfl⟩
          | none => rw [hk] at this; cases this
        · obtain ⟨k, hk⟩ := (hd' j).1 hj
          have := List.all_eq_true.1 hc _ hk
          simp only [Bool.or_eq_true] at this
          rcases this with (h | h) | h
          · exact .inl (hx j h)
          · exact .inr (.inl h)
          · split at h
            · rename_i oj hoj; exact .inr (.inr ⟨oj, o, hoj, ho, h⟩)
            · cases h
      | cons y σ1 =>
        injection e with e1 e2
        subst e1
        have := walkX_ok (pre := pre ++ [x]) hrest (fun j => ?_) (fun j => ?_) (fun i k hk j hj => ?_) σ1 i σ2 e2
        · simpa using this
        · rw [List.mem_append, hd j]
          constructor
          · rintro (⟨k, hk⟩ | hj)
            · rw [olook_cons]
              split
              · exact ⟨_, rfl⟩
              · exact ⟨k, hk⟩
            · have : j = x := by simpa using hj
              subst this
              exact ⟨_, by rw [olook_cons, if_pos rfl]⟩
          · rintro ⟨k, hk⟩
            rw [olook_cons] at hk
            split at hk
            · rename_i e; exact .inr (by simp [e])
            · exact .inl ⟨k, hk⟩
        · rw [List.mem_append, hd' j]
          constructor
          · rintro (⟨k, hk⟩ | hj)
            · exact ⟨k, by simp [hk]⟩
            · have : j = x := by simpa using hj
              subst this
              exact ⟨_, List.mem_cons_self⟩
          · rintro ⟨k, hk⟩
            rcases List.mem_cons.1 hk with h | h
            · injection h with h; exact .inr (by simp [h])
            · exact .inl ⟨k, h⟩
        · rw [olook_cons] at hk
          split at hk
          · rename_i e; subst e; cases hk; exact hx j hj
          · exact hm _ _ hk _ hj
    · cases hB
structure OrderX (ex : Nat → Nat → Bool) (Λ : List Nat) (l : List Oper) (σ : List Nat) : Prop where
  nodup : σ.Nodup
  mem : ∀ i, i ∈ σ ↔ i < l.length
  walked : ∀ σ1 i σ2, σ = σ1 ++ i :: σ2 → WalkedX ex Λ l l.toArray σ1 i
theorem orderX_ok {ex : Nat → Nat → Bool} {l : List Oper} {σ : List Nat} (hl : Nat.beq σ.length l.length = true) (hw : walkX ex Λ l l.toArray σ [] = true) : OrderX ex Λ l σ := by
  have hwalk := fun σ1 i σ2 e => walkX_ok (pre := []) hw (fun j => by simp [olook]) (fun j => by simp) (fun i k hk => by cases hk) σ1 i σ2 e
  simp only [List.nil_append] at hwalk
  have hnd : σ.Nodup := nodup_of_split fun σ1 i σ2 e => (hwalk σ1 i σ2 e).new
  have hlt : ∀ i ∈ σ, i < l.length := by
    intro i hi
    obtain ⟨s, t, e⟩ := List.append_of_mem hi
    obtain ⟨o, ho⟩ := (hwalk s i t e).here
    exact (List.getElem?_eq_some_iff.1 ho).1
  exact ⟨hnd, fun i => ⟨hlt i, nodup_full hnd hlt (nbeq.1 hl) i⟩, hwalk⟩
theorem anc_listed {l : List Oper} : ∀ (listed : Array Bool), listed.size = l.length → Closed l listed → ∀ (i j : Nat), Anc l i j → ∀ o, l[i]? = some o → (∀ e ∈ o.after, Region.binds .any e = true → listed.getD e.on false = true) → listed.getD j false = true := by
  intro listed hsz hcl i j h
  induction h with
  | dep h1 h2 h3 => intro o' ho' hr; rw [h1] at ho'; cases ho'; exact hr _ h2 h3
  | @step i j o e h1 h2 h3 _ ih =>
    intro o' ho' hr
    rw [h1] at ho'; cases ho'
    have hle := hr _ h2 h3
    have hlt : e.on < listed.size := by
      rcases Nat.lt_or_ge e.on listed.size with h | h
      · exact h
      · simp [Array.getElem?_eq_none h] at hle
    have hol : l[e.on]? = some (l[e.on]'(by omega)) := List.getElem?_eq_getElem (by omega)
    exact ih _ hol (fun e' he' hb' => hcl e.on _ hol (by rw [getD_both' hlt true false]; exact hle) e' he' hb')
theorem ready_ne {ex : Nat → Nat → Bool} {l : List Oper} {σ : List Nat} (hO : OrderX ex Λ l σ) {listed : Array Bool} (hsz : listed.size = l.length) {n : Nat} (hn : (unl σ listed).length = n + 1) (hr : Region.ready .any l.toArray listed = []) : False := by
  cases hU : unl σ listed with
  | nil => rw [hU] at hn; cases hn
  | cons k r =>
    have hk : k ∈ unl σ listed := by rw [hU]; simp
    obtain ⟨hk1, hk2⟩ := List.mem_filter.1 hk
    have hkl := (hO.mem k).1 hk1
    obtain ⟨A, B, L1, L2, e0, e1, e2, _⟩ := filter_split (p := fun i => !listed.getD i true) hO.nodup hk1 hk2
    have hL1 : L1 = [] := by
      have e1' : unl σ listed = L1 ++ k :: L2 := e1
      rw [hU] at e1'
      cases L1 with
      | nil => rfl
      | cons y L1 =>
        injection e1' with e3 e4
        subst e3
        obtain ⟨_, hA⟩ := e2 k (by simp)
        exact absurd hA (hO.walked A k B e0).new
    have hwk := hO.walked A k B e0
    have hok : l[k]? = some l[k] := List.getElem?_eq_getElem hkl
    have : k ∈ Region.ready .any l.toArray listed := by
      refine mem_ready.2 ⟨by simpa using hk2, l[k], by simp, fun e he hb => ?_⟩
      have hd := hwk.deps _ hok e he hb
      have hdl : e.on < l.length := (hO.mem _).1 (by rw [e0]; simp [hd])
      cases hle : listed.getD e.on true with
      | true => rw [getD_both' (by omega) false true]; exact hle
      | false =>
        exfalso
        -- what is not listed ahead of it would stand ahead of it in the filter
        have hmem : e.on ∈ A.filter (fun i => !listed.getD i true) := List.mem_filter.2 ⟨hd, by rw [hle]; rfl⟩
        have e5 : σ.filter (fun i => !listed.getD i true) = A.filter (fun i => !listed.getD i true) ++ (k :: B).filter (fun i => !listed.getD i true) := by
          conv => lhs; rw [e0]
          rw [List.filter_append]
        have e6 : unl σ listed = A.filter (fun i => !listed.getD i true) ++ (k :: B).filter (fun i => !listed.getD i true) := e5
        rw [hU] at e6
        cases hA : A.filter (fun i => !listed.getD i true) with
        | nil => rw [hA] at hmem; cases hmem
        | cons y ys =>
          rw [hA] at e6
          injection e6 with e7 _
          have : y ∈ A := (List.mem_filter.1 (by rw [hA]; simp : y ∈ A.filter _)).1
          rw [← e7] at this
          exact hwk.new this
    rw [hr] at this; cases this
theorem wpAny_of_pairsX {ex : Nat → Nat → Bool} {l : List Oper} {σ : List Nat} (hsel : Region.noSelect l.toArray = true) (hO : OrderX ex Λ l σ) : ∀ (n : Nat) (listed : Array Bool) (a : Act) (w : World), listed.size = l.length → Closed l listed → (unl σ listed).length = n → (∀ j i, ex j i = true → listed.getD j false = true) →
    wp2s P Λ l.toArray Q (unl σ listed) a w → wpAny P .any l.toArray (strict Q) n listed a w := by
  have hanc := @anc_listed l
  intro n
  induction n with
  | zero =>
    intro listed a w hsz hcl hn hX h
    have hU : unl σ listed = [] := List.eq_nil_of_length_eq_zero hn
    rw [hU] at h
    refine ⟨?_, h⟩
    cases hr : Region.ready .any l.toArray listed with
    | nil => rfl
    | cons x xs =>
      have hx : x ∈ Region.ready .any l.toArray listed := by rw [hr]; simp
      obtain ⟨h0, o, ho, _⟩ := mem_ready.1 hx
      have hx' : x < l.length := by simpa using (Array.getElem?_eq_some_iff.1 ho).1
      have : x ∈ unl σ listed := List.mem_filter.2 ⟨(hO.mem x).2 hx', by rw [h0]; rfl⟩
      rw [hU] at this; cases this
  | succ n ih =>
    intro listed a w hsz hcl hn hX h
    refine ⟨fun hr => ?_, fun i hi => ?_⟩
    · exact (ready_ne hO hsz hn hr).elim
    · obtain ⟨h0, o, ho, hall⟩ := mem_ready.1 hi
      have ho' : l[i]? = some o := by simpa using ho
      have hil : i < l.length := (List.getElem?_eq_some_iff.1 ho').1
      obtain ⟨A, B, L1, L2, e0, e1, e2, e3⟩ := filter_split (p := fun i => !listed.getD i true) (i := i) hO.nodup ((hO.mem i).2 hil) (by rw [h0]; rfl)
      have hU : unl σ listed = L1 ++ i :: L2 := e1
      have hU' : unl σ (listed.setIfInBounds i true) = L1 ++ L2 := by
        rw [← e3]
        refine List.filter_congr fun j hj => ?_
        by_cases hji : j = i
        · subst hji
          have : j < listed.size := by omega
          simp [this]
        · rw [getD_set_ne true (fun e => hji e.symm)]
          have : (j != i) = true := by simp [hji]
          rw [this, Bool.and_true]
      rw [hU] at h
      have h2 := wp2s_bubble (oi := o) ho (Region.noSelect_spec hsel) (fun j hj => ?_) h
      · refine wpOp_of_wp2 (wp2_mono (fun a' w' h' => ih (listed.setIfInBounds i true) a' w' (by simp [hsz]) ?_ ?_ (fun j k hjk => getD_set_true (hX j k hjk)) (by rw [hU']; exact h')) h2)
        · intro j oj hj hl e he hb
          by_cases hji : j = i
          · subst hji
            rw [ho'] at hj; cases hj
            exact getD_set_true (hall e he hb)
          · rw [getD_set_ne true (fun e => hji e.symm)] at hl
            exact getD_set_true (hcl j oj hj hl e he hb)
        · rw [hU']
          rw [hU] at hn
          simp only [List.length_append, List.length_cons] at hn ⊢
          omega
      · obtain ⟨hun, hjA⟩ := e2 j hj
        have hjl : j < l.length := (hO.mem j).1 (by rw [e0]; simp [hjA])
        rcases (hO.walked A i B e0).comm j hjA with hp | hx | ⟨oj, oi, k1, k2, k3⟩
        · have := hanc listed hsz hcl i j hp o ho' hall
          rw [getD_both' (by omega) false true] at this
          rw [this] at hun; cases hun
        · have := hX j i hx
          rw [getD_both' (by omega) false true] at this
          rw [this] at hun; cases hun
        · rw [ho'] at k2; cases k2
          exact ⟨oj, by simpa using k1, k3⟩
def wpK (P : Program) (Λ : List Nat) (ops : Array Oper) (Q K : Act → World → Prop) : List Nat → Act → World → Prop
  | [], a, w => K a w
  | i :: r, a, w => wp2 P Λ ops Q i (wpK P Λ ops Q K r) a w
theorem wpK_self : ∀ L : List Nat, wpK P Λ ops Q Q L = wp2s P Λ ops Q L
  | [] => rfl
  | i :: r => by
    funext a w
    show wp2 P Λ ops Q i (wpK P Λ ops Q Q r) a w = wp2 P Λ ops Q i (wp2s P Λ ops Q r) a w
    rw [wpK_self r]
theorem wpK_mono {K K' : Act → World → Prop} (hK : ∀ a w, K a w → K' a w) : ∀ {L : List Nat} {a : Act} {w : World}, wpK P Λ ops Q K L a w → wpK P Λ ops Q K' L a w
  | [], _, _, h => hK _ _ h
  | i :: r, a, w, h => by
    have h : wp2 P Λ ops Q i (wpK P Λ ops Q K r) a w := h
    exact wp2_mono (fun a w h => wpK_mono hK h) h
theorem wpK_app {K : Act → World → Prop} {M : List Nat} : ∀ (L : List Nat), wpK P Λ ops Q K (L ++ M) = wpK P Λ ops Q (wpK P Λ ops Q K M) L
  | [] => rfl
  | i :: r => by
    funext a w
    show wp2 P Λ ops Q i (wpK P Λ ops Q K (r ++ M)) a w = wp2 P Λ ops Q i (wpK P Λ ops Q (wpK P Λ ops Q K M) r) a w
    rw [wpK_app r]
theorem wpK_bubble {K : Act → World → Prop} {i : Nat} {oi : Oper} (hi : ops[i]? = some oi) (hsel : ∀ (j : Nat) (o : Oper) cs b, ops[j]? = some o → o.op ≠ .select cs b) {L2 : List Nat} : ∀ {L1 : List Nat} {a : Act} {w : World}, (∀ j ∈ L1, ∃ oj, ops[j]? = some oj ∧ commB Λ ops oj oi = true) →
    wpK P Λ ops Q K (L1 ++ i :: L2) a w → wp2 P Λ ops Q i (wpK P Λ ops Q K (L1 ++ L2)) a w
  | [], _, _, _, h => h
  | j :: L1, a, w, hL, h => by
    have h' : wp2 P Λ ops Q j (wpK P Λ ops Q K (L1 ++ i :: L2)) a w := h
    obtain ⟨oj, hj, hc⟩ := hL j (by simp)
    exact wp2_swap hi hj (fun cs b => hsel i oi cs b hi) (fun cs b => hsel j oj cs b hj) hc (wp2_mono (fun a w h => wpK_bubble hi hsel (fun k hk => hL k (by simp [hk])) h) h')
theorem run_v {s : Sem Value} {n : Next} {w' : World} (h : (do pure (Next.value (← s)) : Sem Next).run P w = .ok n w') : ∃ v, n = .value v := by
  simp only [Sem.run_bind] at h
  cases hs : s.run P w with
  | ok x w1 =>
    rw [hs] at h
    have h : (Result.ok (Next.value x) w1 : Result Next) = .ok n w' := h
    injection h with h1 _
    exact ⟨x, h1.symm⟩
  | halt x w1 =>
    rw [hs] at h
    cases h
theorem calm_run {o : Oper} (hs : ¬ softOp o = true) (hc : calmOp o = true) {a : Act} {n : Next} {w' : World} (h : (execOp a.eval o).run P w = .ok n w') : ∃ v, n = .value v := by
  unfold calmOp at hc
  have hc : (match o.op with | .makeSlice .. => true | .call { callee := .builtin .append, .. } => true | _ => false) = true := by
    cases h2 : softOp o with
    | true => exact absurd h2 hs
    | false => rw [h2, Bool.false_or] at hc; exact hc
  split at hc
  · rename_i t x y ho
    unfold execOp at h
    rw [ho] at h
    exact run_v h
  · rename_i args ats ho
    unfold execOp at h
    rw [ho] at h
    exact run_v h
  · cases hc
theorem wp2_conj {i : Nat} {o : Oper} (hi : ops[i]? = some o) (hc : calmOp o = true) {K1 K2 : Act → World → Prop} {a : Act} (h1 : wp2 P Λ ops Q i K1 a w) (h2 : wp2 P Λ ops Q i K2 a w) : wp2 P Λ ops Q i (fun a w => K1 a w ∧ K2 a w) a w := by
  by_cases hs : softOp o = true
  · obtain ⟨v, a1, a2⟩ := (wp2_soft hi hs).1 h1
    obtain ⟨u, b1, b2⟩ := (wp2_soft hi hs).1 h2
    have : u = v := b1.uniq a1
    subst this
    exact (wp2_soft hi hs).2 ⟨u, a1, a2, b2⟩
  · have h1 := (wp2_hard hi hs).1 h1
    have h2 := (wp2_hard hi hs).1 h2
    refine (wp2_hard hi hs).2 ?_
    split
    · rename_i hw
      rw [if_pos hw] at h1 h2
      unfold Oper.wp at *
      cases hr : (execOp a.eval o).run P w with
      | ok n w' =>
        obtain ⟨v, rfl⟩ := calm_run hs hc hr
        rw [hr] at h1 h2
        exact ⟨h1.1, h1.2, h2.2⟩
      | halt x w' =>
        rw [hr] at h1
        cases x <;> first | exact h1 | exact h1.elim
    · rename_i hw
      rw [if_neg hw] at h1 h2
      exact ⟨h1, h2⟩
theorem ancOf_ok {l : List Oper} : ∀ {σ : List Nat} {done : List (Nat × Nat)}, (∀ i k, olook i done = some k → ∀ j, k.testBit j = true → Anc l i j) → ∀ i k, olook i (ancOf l σ done) = some k → ∀ j, k.testBit j = true → Anc l i j
  | [], done, h => h
  | x :: σ, done, h => by
    unfold ancOf
    split
    · rename_i o ho
      refine ancOf_ok (σ := σ) fun i k hk j hj => ?_
      rw [olook_cons] at hk
      split at hk
      · rename_i e
        subst e
        cases hk
        obtain ⟨e, h1, h2, h3 | ⟨k, h3, h4⟩⟩ := maskOf_bit hj
        · rw [← h3]; exact .dep ho h1 h2
        · exact .step ho h1 h2 (h _ _ h3 _ h4)
      · exact h i k hk j hj
    · exact h
theorem hasAnc_ok {l : List Oper} {σ : List Nat} {i j : Nat} (h : hasAnc (ancOf l σ []) i j = true) : Anc l i j := by
  unfold hasAnc at h
  split at h
  · rename_i k hk
    exact ancOf_ok (fun i k hk => by cases hk) i k hk j h
  · cases h
theorem unl_app (A B : List Nat) (listed : Array Bool) : unl (A ++ B) listed = unl A listed ++ unl B listed := by unfold unl; rw [List.filter_append]
theorem unl_out {L : List Nat} {i : Nat} (h : i ∉ L) (listed : Array Bool) : unl L (listed.setIfInBounds i true) = unl L listed := by
  refine List.filter_congr fun j hj => ?_
  rw [getD_set_ne true (fun e => h (by rw [e]; exact hj))]
theorem unl_in {L : List Nat} (hn : L.Nodup) {i : Nat} {listed : Array Bool} (hi : i ∈ L) (hlt : i < listed.size) (h0 : listed.getD i true = false) : ∃ A B L1 L2, L = A ++ i :: B ∧ unl L listed = L1 ++ i :: L2 ∧ (∀ j ∈ L1, (!listed.getD j true) = true ∧ j ∈ A) ∧ unl L (listed.setIfInBounds i true) = L1 ++ L2 := by
  obtain ⟨A, B, L1, L2, e0, e1, e2, e3⟩ := filter_split (p := fun i => !listed.getD i true) (i := i) hn hi (by rw [h0]; rfl)
  refine ⟨A, B, L1, L2, e0, e1, e2, ?_⟩
  rw [← e3]
  refine List.filter_congr fun j hj => ?_
  by_cases hji : j = i
  · subst hji
    simp [hlt]
  · rw [getD_set_ne true (fun e => hji e.symm)]
    have : (j != i) = true := by simp [hji]
    rw [this, Bool.and_true]
theorem wpAny_two {l : List Oper} {ex1 ex2 : Nat → Nat → Bool} {τ r1 r2 : List Nat} {p q : Nat} (hsel : Region.noSelect l.toArray = true) (h1 : OrderX ex1 Λ l (τ ++ r1)) (h2 : OrderX ex2 Λ l (τ ++ r2))
    (hx1 : ∀ j i, ex1 j i = true → j = p ∧ i = q) (hx2 : ∀ j i, ex2 j i = true → i = p ∧ (j = q ∨ Anc l q j))
    (hr : ∀ i ∈ r1, i = p ∨ i = q ∨ (∃ o, l[i]? = some o ∧ calmOp o = true) ∨ Anc l i p ∨ Anc l i q) (hp : p ∈ r1) (hq : q ∈ r1) (hpq : p ≠ q) :
    ∀ (n : Nat) (listed : Array Bool) (a : Act) (w : World), listed.size = l.length → Closed l listed → (unl (τ ++ r1) listed).length = n → listed.getD p true = false → listed.getD q true = false →
      wpK P Λ l.toArray Q (fun a w => wp2s P Λ l.toArray Q (unl r1 listed) a w ∧ wp2s P Λ l.toArray Q (unl r2 listed) a w) (unl τ listed) a w → wpAny P .any l.toArray (strict Q) n listed a w := by
  have hn1 := List.nodup_append.1 h1.nodup
  have hn2 := List.nodup_append.1 h2.nodup
  have hpl : p < l.length := (h1.mem p).1 (by simp [hp])
  have hql : q < l.length := (h1.mem q).1 (by simp [hq])
  have in2 : ∀ {i}, i ∈ r1 → i ∈ r2 := fun {i} hi => by
    have hm := (h2.mem i).2 ((h1.mem i).1 (by simp [hi]))
    rcases List.mem_append.1 hm with hm | hm
    · exact absurd rfl (hn1.2.2 i hm i hi)
    · exact hm
  have hnos := Region.noSelect_spec hsel
  intro n
  induction n with
  | zero =>
    intro listed a w hsz hcl hn hp0 hq0 h
    have hU := List.eq_nil_of_length_eq_zero hn
    have : p ∈ unl (τ ++ r1) listed := List.mem_filter.2 ⟨by simp [hp], by rw [hp0]; rfl⟩
    rw [hU] at this; cases this
  | succ n ih =>
    intro listed a w hsz hcl hn hp0 hq0 h
    refine ⟨fun hrd => (ready_ne h1 hsz hn hrd).elim, fun i hi => ?_⟩
    obtain ⟨h0, o, ho, hall⟩ := mem_ready.1 hi
    have ho' : l[i]? = some o := by simpa using ho
    have hil : i < l.length := (List.getElem?_eq_some_iff.1 ho').1
    have h0' : listed.getD i true = false := h0
    have hsz' : (listed.setIfInBounds i true).size = l.length := by simp [hsz]
    have hcl' : Closed l (listed.setIfInBounds i true) := by
      intro j oj hj hl e he hb
      by_cases hji : j = i
      · subst hji
        rw [ho'] at hj; cases hj
        exact getD_set_true (hall e he hb)
      · rw [getD_set_ne true (fun e => hji e.symm)] at hl
        exact getD_set_true (hcl j oj hj hl e he hb)
    have hanc : ∀ j, Anc l i j → listed.getD j false = true := fun j hj => anc_listed listed hsz hcl i j hj o ho' hall
    -- what has come up is no hindrance
    have fits : ∀ {ex : Nat → Nat → Bool} {A : List Nat}, WalkedX ex Λ l l.toArray A i → (∀ j, ex j i ≠ true) → ∀ j ∈ A, (!listed.getD j true) = true → ∃ oj, l.toArray[j]? = some oj ∧ commB Λ l.toArray oj o = true := by
      intro ex A hw hne j hj hun
      rcases hw.comm j hj with hc | hc | ⟨oj, oi, k1, k2, k3⟩
      · have := hanc j hc
        rw [getD_both' (a := false) (b := true)] at this
        · rw [this] at hun; cases hun
        · rcases Nat.lt_or_ge j listed.size with h' | h'
          · exact h'
          · simp [Array.getElem?_eq_none h'] at this
      · exact absurd hc (hne j)
      · rw [ho'] at k2; cases k2
        exact ⟨oj, by simpa using k1, k3⟩
    have hmem : i ∈ τ ++ r1 := (h1.mem i).2 hil
    have hlen' : (unl (τ ++ r1) (listed.setIfInBounds i true)).length = n := by
      obtain ⟨A, B, L1, L2, _, e1, _, e3⟩ := unl_in h1.nodup hmem (by omega) h0'
      rw [e3]
      rw [e1] at hn
      simp only [List.length_append, List.length_cons] at hn ⊢
      omega
    have split1 : ∀ {σ A B : List Nat}, σ = A ++ i :: B → ∀ {ex : Nat → Nat → Bool}, OrderX ex Λ l σ → WalkedX ex Λ l l.toArray A i := fun e _ hO => hO.walked _ i _ e
    rcases List.mem_append.1 hmem with hτ | hr1
    · -- ahead of both
      have hip : i ≠ p := fun e => hn1.2.2 i hτ p hp e
      have hiq : i ≠ q := fun e => hn1.2.2 i hτ q hq e
      have hir1 : i ∉ r1 := fun hi => hn1.2.2 i hτ i hi rfl
      have hir2 : i ∉ r2 := fun hi => hn2.2.2 i hτ i hi rfl
      obtain ⟨A, B, L1, L2, e0, e1, e2, e3⟩ := unl_in hn1.1 hτ (by omega) h0'
      rw [e1] at h
      have hw := split1 (σ := τ ++ r1) (A := A) (B := B ++ r1) (by rw [e0]; simp) h1
      have h3 := wpK_bubble (oi := o) ho hnos (fun j hj => fits hw (fun j hx => hiq (hx1 j i hx).2) j (e2 j hj).2 (e2 j hj).1) h
      refine wpOp_of_wp2 (wp2_mono (fun a' w' h' => ih (listed.setIfInBounds i true) a' w' hsz' hcl' hlen' ?_ ?_ ?_) h3)
      · rw [getD_set_ne true hip]; exact hp0
      · rw [getD_set_ne true hiq]; exact hq0
      · rw [unl_out hir1, unl_out hir2, e3]; exact h'
    · have hiτ : i ∉ τ := fun hi => hn1.2.2 i hi i hr1 rfl
      by_cases hip : i = p
      · -- the first one comes up: the first order
        subst hip
        have hK : wp2s P Λ l.toArray Q (unl (τ ++ r1) listed) a w := by
          rw [unl_app, ← wpK_self, wpK_app]
          exact wpK_mono (fun a w h => by rw [wpK_self]; exact h.1) h
        obtain ⟨A, B, L1, L2, e0, e1, e2, e3⟩ := unl_in h1.nodup hmem (by omega) h0'
        rw [e1] at hK
        have hw := split1 e0 h1
        have h3 := wp2s_bubble (oi := o) ho hnos (fun j hj => fits hw (fun j hx => hpq (hx1 j i hx).2) j (e2 j hj).2 (e2 j hj).1) hK
        refine wpOp_of_wp2 (wp2_mono (fun a' w' h' => wpAny_of_pairsX hsel h1 n (listed.setIfInBounds i true) a' w' hsz' hcl' hlen' (fun j k hjk => ?_) (by rw [e3]; exact h')) h3)
        rw [(hx1 j k hjk).1]
        simp [show i < listed.size by omega]
      · by_cases hiq : i = q
        · subst hiq
          have hi2 := in2 hr1
          have hK : wp2s P Λ l.toArray Q (unl (τ ++ r2) listed) a w := by
            rw [unl_app, ← wpK_self, wpK_app]
            exact wpK_mono (fun a w h => by rw [wpK_self]; exact h.2) h
          have hmem2 : i ∈ τ ++ r2 := List.mem_append.2 (.inr hi2)
          obtain ⟨A, B, L1, L2, e0, e1, e2, e3⟩ := unl_in h2.nodup hmem2 (by omega) h0'
          rw [e1] at hK
          have hw := split1 e0 h2
          have h3 := wp2s_bubble (oi := o) ho hnos (fun j hj => fits hw (fun j hx => hpq (hx2 j i hx).1.symm) j (e2 j hj).2 (e2 j hj).1) hK
          have hlen2 : (unl (τ ++ r2) (listed.setIfInBounds i true)).length = n := by
            have ha : ∀ {σ : List Nat} {ex : Nat → Nat → Bool}, OrderX ex Λ l σ → (unl σ (listed.setIfInBounds i true)).Perm (unl (τ ++ r1) (listed.setIfInBounds i true)) := fun {σ ex} hO => by
              refine List.Perm.filter _ ((List.perm_ext_iff_of_nodup hO.nodup h1.nodup).2 fun x => ?_)
              rw [hO.mem x, h1.mem x]
            rw [(ha h2).length_eq]
            exact hlen'
          refine wpOp_of_wp2 (wp2_mono (fun a' w' h' => wpAny_of_pairsX hsel h2 n (listed.setIfInBounds i true) a' w' hsz' hcl' hlen2 (fun j k hjk => ?_) (by rw [e3]; exact h')) h3)
          rcases (hx2 j k hjk).2 with e | e
          · rw [e]
            simp [show i < listed.size by omega]
          · exact getD_set_true (hanc j e)
        · rcases hr i hr1 with e | e | ⟨o2, e1, e2⟩ | e | e
          · exact absurd e hip
          · exact absurd e hiq
          · rw [ho'] at e1
            cases e1
            have hi2 := in2 hr1
            obtain ⟨A, B, L1, L2, f0, f1, f2, f3⟩ := unl_in hn1.2.1 hr1 (by omega) h0'
            obtain ⟨A', B', L1', L2', g0, g1, g2, g3⟩ := unl_in hn2.2.1 hi2 (by omega) h0'
            have hw1 := split1 (σ := τ ++ r1) (A := τ ++ A) (B := B) (by rw [f0]; simp) h1
            have hw2 := split1 (σ := τ ++ r2) (A := τ ++ A') (B := B') (by rw [g0]; simp) h2
            have c1 := fits hw1 (fun j hx => hiq (hx1 j i hx).2)
            have c2 := fits hw2 (fun j hx => hip (hx2 j i hx).1)
            have h3 : wpK P Λ l.toArray Q (wp2 P Λ l.toArray Q i (fun a w => wp2s P Λ l.toArray Q (unl r1 (listed.setIfInBounds i true)) a w ∧ wp2s P Λ l.toArray Q (unl r2 (listed.setIfInBounds i true)) a w)) (unl τ listed) a w := by
              refine wpK_mono (fun a w hk => ?_) h
              obtain ⟨k1, k2⟩ := hk
              rw [f1] at k1
              rw [g1] at k2
              rw [f3, g3]
              exact wp2_conj ho e2 (wp2s_bubble (oi := o) ho hnos (fun j hj => c1 j (by simp [(f2 j hj).2]) (f2 j hj).1) k1) (wp2s_bubble (oi := o) ho hnos (fun j hj => c2 j (by simp [(g2 j hj).2]) (g2 j hj).1) k2)
            have h4 : wpK P Λ l.toArray Q (fun a w => wp2s P Λ l.toArray Q (unl r1 (listed.setIfInBounds i true)) a w ∧ wp2s P Λ l.toArray Q (unl r2 (listed.setIfInBounds i true)) a w) (unl τ listed ++ i :: []) a w := by
              rw [wpK_app]
              exact h3
            have h5 := wpK_bubble (oi := o) ho hnos (fun j hj => c1 j (by have := (List.mem_filter.1 hj).1; simp [this]) (List.mem_filter.1 hj).2) h4
            rw [List.append_nil] at h5
            refine wpOp_of_wp2 (wp2_mono (fun a' w' h' => ih (listed.setIfInBounds i true) a' w' hsz' hcl' hlen' ?_ ?_ ?_) h5)
            · rw [getD_set_ne true hip]; exact hp0
            · rw [getD_set_ne true hiq]; exact hq0
            · rw [unl_out hiτ]; exact h'
          · have := hanc p e
            rw [getD_both' (by omega) false true, hp0] at this
            cases this
          · have := hanc q e
            rw [getD_both' (by omega) false true, hq0] at this
            cases this
theorem wp_region_two {id : Nat} {l : List Oper} {t : Twin} (hm : P.follows .mixedOrders = true) (hB : twoB Λ l t = true) {Q : Exit → Act → World → Prop} {a : Act}
    (h : wpK P Λ l.toArray (Q .normal) (fun a w => wp2s P Λ l.toArray (Q .normal) t.r1 a w ∧ wp2s P Λ l.toArray (Q .normal) t.r2 a w) t.pre a { w with drawn := w.drawn + 1 }) : (Code.region id l.toArray true).wp P Q a w := by
  unfold twoB at hB
  simp only [Bool.and_eq_true] at hB
  obtain ⟨⟨⟨⟨⟨hsel, hl1, hl2⟩, hw1, hw2⟩, ⟨hp, hq⟩, hpq⟩, hys⟩, hr⟩ := hB
  have h1 : OrderX t.ex1 Λ l (t.pre ++ t.r1) := orderX_ok hl1 hw1
  have h2 : OrderX t.ex2 Λ l (t.pre ++ t.r2) := orderX_ok hl2 hw2
  have hpm := inList_mem.1 hp
  have hqm := inList_mem.1 hq
  have hne : t.p ≠ t.q := fun e => by rw [nbeq.2 e] at hpq; cases hpq
  refine Code.wp_mono (Q := strict (Q .normal)) (fun e a w h => by cases e <;> first | exact h | exact h.elim) (wp_region_any hm ?_)
  have hU : ∀ {σ : List Nat}, (∀ i ∈ σ, i < l.length) → unl σ (Array.replicate l.length false) = σ := fun {σ} hlt => by
    unfold unl
    rw [List.filter_eq_self]
    intro i hi
    simp [hlt i hi]
  have u0 := hU (σ := t.pre) (fun i hi => (h1.mem i).1 (by simp [hi]))
  have u1 := hU (σ := t.r1) (fun i hi => (h1.mem i).1 (by simp [hi]))
  have u2 := hU (σ := t.r2) (fun i hi => (h2.mem i).1 (by simp [hi]))
  refine wpAny_two hsel h1 h2 (fun j i hx => ?_) (fun j i hx => ?_) (fun i hi => ?_) hpm hqm hne _ _ _ _ (by simp) (fun j oj hj hl => ?_) (by rw [List.size_toArray, unl_app, u0, u1]; exact nbeq.1 hl1) ?_ ?_ (by rw [List.size_toArray, u0, u1, u2]; exact h)
  · unfold Twin.ex1 at hx
    rw [Bool.and_eq_true] at hx
    exact ⟨nbeq.1 hx.1, nbeq.1 hx.2⟩
  · unfold Twin.ex2 at hx
    rw [Bool.and_eq_true] at hx
    refine ⟨nbeq.1 hx.1, ?_⟩
    have := List.all_eq_true.1 hys j (inList_mem.1 hx.2)
    rw [Bool.or_eq_true] at this
    exact this.imp nbeq.1 hasAnc_ok
  · have := List.all_eq_true.1 hr i hi
    simp only [Bool.or_eq_true] at this
    rcases this with ((h | h) | h) | h | h
    · exact .inl (nbeq.1 h)
    · exact .inr (.inl (nbeq.1 h))
    · split at h
      · rename_i o ho; exact .inr (.inr (.inl ⟨o, ho, h⟩))
      · cases h
    · exact .inr (.inr (.inr (.inl (hasAnc_ok h))))
    · exact .inr (.inr (.inr (.inr (hasAnc_ok h))))
  · have : j < l.length := (List.getElem?_eq_some_iff.1 hj).1
    simp [this] at hl
  · simp [(h1.mem t.p).1 (by simp [hpm])]
  · simp [(h1.mem t.q).1 (by simp [hqm])]
theorem sim_K (hG : CtxOk P G) (hT : ∀ f fa, T f = some fa → CalleeOk P f fa ∧ (fa.isPlain = false → inList f A.lents = true)) {all : List Oper} {Q : Act → World → Prop} {st' : St} {K : Act → World → Prop} (hQ : ∀ S' ν' tmps' w', Inv B X w0 S' ν' st' tmps' w' → K ⟨tmps', ds⟩ w') :
    ∀ {σ : List Nat} {S : Nat → Prop} {ν : Nat → Value} {st : St} {tmps : Array Value} {w : World}, (∀ i ∈ σ, i < all.length) → Inv B X w0 S ν st tmps w → (evOps G T A all (pick all σ) st).run = some st' → wpK P A.lents all.toArray Q K σ ⟨tmps, ds⟩ w
  | [], S, ν, st, tmps, w, _, h, hr => by
    cases hr
    exact hQ _ _ _ _ h
  | k :: σ, S, ν, st, tmps, w, hl, h, hr => by
    have hk : k < all.length := hl k (by simp)
    have h0' : all[k]? = some all[k] := List.getElem?_eq_getElem hk
    generalize all[k] = o at h0'
    have h0 : all.toArray[k]? = some o := by simpa using h0'
    have hl' : ∀ i ∈ σ, i < all.length := fun i hi => hl i (by simp [hi])
    have hp : pick all (k :: σ) = o :: pick all σ := by simp [pick, h0']
    rw [hp] at hr
    have step : ∀ {st1 : St}, Region.wanted o (yielded all.toArray tmps) = true → Inv B X w0 S ν st1 tmps w → ((evOp G T A o st1).bind (evOps G T A all (pick all σ))).run = some st' → wpK P A.lents all.toArray Q K (k :: σ) ⟨tmps, ds⟩ w := by
      intro st1 hw h1 hr1
      obtain ⟨st2, k1, k2⟩ := run_bind hr1
      show wp2 P A.lents all.toArray Q k (wpK P A.lents all.toArray Q K σ) ⟨tmps, ds⟩ w
      by_cases hq : softOp o = true
      · obtain ⟨v, S', ν', hy, hall, h2⟩ := evOp_soft (ds := ds) hG h1 hq k1
        refine (wp2_soft h0 hq).2 ⟨v, .inl ⟨hw, hy, hall⟩, ?_⟩
        rw [act_eta]
        exact sim_K hG hT hQ hl' h2 k2
      · refine (wp2_hard h0 hq).2 ?_
        rw [if_pos hw]
        exact (evOp_ok (Λ := A.lents) (ds := ds) hG (fun f fa h => (hT f fa h).1) (fun f fa h => (hT f fa h).2) h1 k1) _ _ fun S' ν' tmps' w' h' hg => ⟨hg, sim_K hG hT hQ hl' h' k2⟩
    have skip : ∀ {st1 : St}, ¬ Region.wanted o (yielded all.toArray tmps) = true → Inv B X w0 S ν st1 tmps w → (evOps G T A all (pick all σ) (st1.put o.dst .skip)).run = some st' → wpK P A.lents all.toArray Q K (k :: σ) ⟨tmps, ds⟩ w := by
      intro st1 hw h1 hr1
      show wp2 P A.lents all.toArray Q k (wpK P A.lents all.toArray Q K σ) ⟨tmps, ds⟩ w
      have h2 := h1.put (s := .skip) (v := undef) rfl o.dst ds
      have := sim_K (Q := Q) hG hT hQ (σ := σ) hl' h2 hr1
      rw [← act_eta] at this
      by_cases hq : softOp o = true
      · exact (wp2_soft h0 hq).2 ⟨undef, .inr ⟨by simpa using hw, rfl⟩, this⟩
      · refine (wp2_hard h0 hq).2 ?_
        rw [if_neg hw]; exact this
    unfold evOps at hr
    cases hg : o.guard with
    | none =>
      rw [hg] at hr
      have hw : Region.wanted o (yielded all.toArray tmps) = true := by simp [Region.wanted, hg]
      exact step hw h hr
    | some jw =>
      obtain ⟨j, want⟩ := jw
      rw [hg] at hr
      dsimp only at hr
      split at hr
      · rename_i d hd
        split at hr
        · rename_i hsk
          have hy := skip_ok h hd hsk
          have hw : ¬ Region.wanted o (yielded all.toArray tmps) = true := by
            simp only [Region.wanted, hg, hy]
            simp
          exact skip hw h hr
        obtain ⟨b, st1, hb, h1, hr⟩ := withBool_ok h hr
        have hy := yielded_ok hd hb
        by_cases hbw : (b == want) = true
        · rw [if_pos hbw] at hr
          have hw : Region.wanted o (yielded all.toArray tmps) = true := by
            simp only [Region.wanted, hg, hy]
            simpa using hbw
          exact step hw h1 hr
        · rw [if_neg hbw] at hr
          have hw : ¬ Region.wanted o (yielded all.toArray tmps) = true := by
            simp only [Region.wanted, hg, hy]
            simpa using hbw
          exact skip hw h1 hr
      · cases hr
theorem bind_mk {α γ : Type} {f : α → Tr γ} {x : α} {y : γ} : ∀ {t : Tr α}, t.run = some x → (f x).run = some y → (t.bind f).run = some y
  | .pure a, h, k => by
    cases h
    exact k
  | .fail, h, _ => by cases h
  | .br c t e, h, k => by
    cases c with
    | true => exact bind_mk (t := t) h k
    | false => exact bind_mk (t := e) h k
  | .bnd o g, h, k => by
    obtain ⟨b, rfl, hb⟩ := run_bnd h
    exact bind_mk (t := g b) hb k
  | .alt o g j, h, k => by
    cases o with
    | none => cases h
    | some z =>
      cases z with
      | inl b => exact bind_mk (t := g b) h k
      | inr b => exact bind_mk (t := j b) h k
theorem evOps_cons {all : List Oper} {o : Oper} {r : List Oper} {st : St} : evOps G T A all (o :: r) st = (match o.guard with
    | none => (evOp G T A o st).bind (evOps G T A all r)
    | some (j, want) => match dstOf all j with
      | some d => if (st.get d).isSkip then evOps G T A all r (st.put o.dst .skip) else withBool st d fun b st =>
        if b == want then (evOp G T A o st).bind (evOps G T A all r) else evOps G T A all r (st.put o.dst .skip)
      | none => .fail) := rfl
theorem evOps_split {all : List Oper} : ∀ (a b : List Oper) {st st2 : St}, (evOps G T A all (a ++ b) st).run = some st2 → ∃ st1, (evOps G T A all a st).run = some st1 ∧ (evOps G T A all b st1).run = some st2
  | [], b, st, st2, h => ⟨st, rfl, h⟩
  | o :: a, b, st, st2, h => by
    rw [List.cons_append, evOps_cons] at h
    rw [evOps_cons]
    have step : ∀ {sa : St}, ((evOp G T A o sa).bind (evOps G T A all (a ++ b))).run = some st2 → ∃ st1, ((evOp G T A o sa).bind (evOps G T A all a)).run = some st1 ∧ (evOps G T A all b st1).run = some st2 := by
      intro sa h
      obtain ⟨s1, k1, k2⟩ := run_bind h
      obtain ⟨s2, m1, m2⟩ := evOps_split a b k2
      exact ⟨s2, bind_mk k1 m1, m2⟩
    cases hg : o.guard with
    | none =>
      rw [hg] at h
      exact step h
    | some jw =>
      obtain ⟨j, want⟩ := jw
      rw [hg] at h
      dsimp only at h ⊢
      cases hd : dstOf all j with
      | none => rw [hd] at h; cases h
      | some d =>
        rw [hd] at h
        dsimp only at h ⊢
        by_cases hs : (st.get d).isSkip = true
        · rw [if_pos hs] at h ⊢
          exact evOps_split a b h
        · rw [if_neg hs] at h ⊢
          have two : ∀ {c : Bool} {sa : St}, (if c == want then (evOp G T A o sa).bind (evOps G T A all (a ++ b)) else evOps G T A all (a ++ b) (sa.put o.dst .skip)).run = some st2 →
              ∃ st1, (if c == want then (evOp G T A o sa).bind (evOps G T A all a) else evOps G T A all a (sa.put o.dst .skip)).run = some st1 ∧ (evOps G T A all b st1).run = some st2 := by
            intro c sa h
            by_cases hc : (c == want) = true
            · rw [if_pos hc] at h ⊢
              exact step h
            · rw [if_neg hc] at h ⊢
              exact evOps_split a b h
          unfold withBool at h ⊢
          split at h
          · exact two h
          · rename_i f c hc
            cases c with
            | true => exact two (c := true) h
            | false => exact two (c := false) h
          · cases h
theorem evT_same {n : Nat} {t : Twin} : ∀ (c : Code) (st : St), hasR t.id c = false → evCodeT G T A L n t true c st = evCodeT G T A L n t false c st := by
  intro c
  induction c with
  | region id ops draw =>
    intro st h
    unfold evCodeT
    have h : (draw && Nat.beq id t.id) = false := h
    rw [if_neg (by rw [h]; simp), if_neg (by rw [h]; simp)]
  | seq a b iha ihb =>
    intro st h
    have h : (hasR t.id a || hasR t.id b) = false := h
    rw [Bool.or_eq_false_iff] at h
    have hb : evCodeT G T A L n t true b = evCodeT G T A L n t false b := funext fun st => ihb st h.2
    unfold evCodeT
    rw [iha st h.1, hb]
  | cond c x y ihx ihy =>
    intro st h
    have h : (hasR t.id x || hasR t.id y) = false := h
    rw [Bool.or_eq_false_iff] at h
    have hx : evCodeT G T A L n t true x = evCodeT G T A L n t false x := funext fun st => ihx st h.1
    have hy : evCodeT G T A L n t true y = evCodeT G T A L n t false y := funext fun st => ihy st h.2
    cases c with
    | tmp d => unfold evCodeT; rw [hx, hy]
    | const v =>
      cases v with
      | bool b => unfold evCodeT; cases b <;> simp only [hx, hy]
      | _ => rfl
    | _ => rfl
  | block id c ih =>
    intro st h
    have h : hasR t.id c = false := h
    unfold evCodeT
    rw [ih st h]
  | _ => intro st _; rfl
theorem withBool_two {α : Type} (h : Inv B X w0 S ν st tmps w) {d : Nat} {k k' : Bool → St → Tr α} {x x' : α} (hr : (withBool st d k).run = some x) (hr' : (withBool st d k').run = some x') :
    ∃ b st1, tmps[d]? = some (.bool b) ∧ Inv B X w0 S ν st1 tmps w ∧ (k b st1).run = some x ∧ (k' b st1).run = some x' := by
  have both : (withBool st d fun b st => (k b st).bind fun y => (k' b st).bind fun y' => .pure (y, y')).run = some (x, x') := by
    unfold withBool at hr hr' ⊢
    split at hr
    · rename_i b hg
      rw [hg] at hr'
      dsimp only at hr'
      exact bind_mk hr (bind_mk hr' rfl)
    · rename_i f c hg
      rw [hg] at hr'
      dsimp only at hr'
      cases c with
      | true => exact bind_mk (t := k true _) hr (bind_mk (t := k' true _) hr' rfl)
      | false => exact bind_mk (t := k false _) hr (bind_mk (t := k' false _) hr' rfl)
    · cases hr
  obtain ⟨b, st1, h1, h2, h3⟩ := withBool_ok h both
  obtain ⟨y, g1, g2⟩ := run_bind h3
  obtain ⟨y', g3, g4⟩ := run_bind g2
  cases g4
  exact ⟨b, st1, h1, h2, g1, g3⟩
theorem sim_two (hm : P.follows .mixedOrders = true) (hG : CtxOk P G) (hT : ∀ f fa, T f = some fa → CalleeOk P f fa ∧ (fa.isPlain = false → inList f A.lents = true)) {n : Nat} {t : Twin} :
    ∀ (c : Code), onceR t.id c = true → ∀ {st st1 st2 : St} {e1 e2 : Ex} {S : Nat → Prop} {ν : Nat → Value} {tmps : Array Value} {w : World} {Q : Exit → Act → World → Prop}, Inv B X w0 S ν st tmps w →
      (evCodeT G T A L n t false c st).run = some (e1, st1) → (evCodeT G T A L n t true c st).run = some (e2, st2) →
      (∀ S' ν' tmps' w', Inv B X w0 S' ν' st1 tmps' w' → Q e1.real ⟨tmps', ds⟩ w') → (∀ S' ν' tmps' w', Inv B X w0 S' ν' st2 tmps' w' → Q e2.real ⟨tmps', ds⟩ w') → c.wp P Q ⟨tmps, ds⟩ w := by
  intro c
  induction c with
  | region id ops draw =>
    intro _ st st1 st2 e1 e2 S ν tmps w Q h hr1 hr2 hQ1 hQ2
    unfold evCodeT at hr1 hr2
    by_cases hc : (draw && Nat.beq id t.id) = true
    · rw [if_pos hc] at hr1 hr2
      obtain ⟨l⟩ := ops
      rw [Bool.and_eq_true] at hc
      have hd : draw = true := hc.1
      subst hd
      split at hr1
      · rename_i hB
        rw [if_pos hB] at hr2
        obtain ⟨sa, a1, a2⟩ := run_bind hr1
        obtain ⟨sb, b1, b2⟩ := run_bind hr2
        cases a2
        cases b2
        rw [if_neg (by simp)] at a1
        rw [if_pos rfl] at b1
        have pa : ∀ (x y : List Nat), pick l (x ++ y) = pick l x ++ pick l y := fun x y => by unfold pick; rw [List.filterMap_append]
        have a1 : (evOps G T A l (pick l (t.pre ++ t.r1)) st).run = some st1 := a1
        have b1 : (evOps G T A l (pick l (t.pre ++ t.r2)) st).run = some st2 := b1
        rw [pa] at a1 b1
        obtain ⟨s0, a3, a4⟩ := evOps_split _ _ a1
        obtain ⟨s0', b3, b4⟩ := evOps_split _ _ b1
        rw [a3] at b3
        cases b3
        have hB2 := hB
        unfold twoB at hB2
        simp only [Bool.and_eq_true] at hB2
        have h1 := orderX_ok hB2.1.1.1.1.2.1 hB2.1.1.1.2.1
        have h2 := orderX_ok hB2.1.1.1.1.2.2 hB2.1.1.1.2.2
        refine wp_region_two hm hB ?_
        have hi : Inv B X w0 S ν st tmps { w with drawn := w.drawn + 1 } := h.grow (grown_drewN 1)
        refine sim_K (Q := Q .normal) hG hT (fun S' ν' tmps' w' h' => ⟨?_, ?_⟩) (fun i hi => (h1.mem i).1 (by simp [hi])) hi a3
        · exact sim_pairs (Q := Q .normal) hG hT (fun S' ν' tmps' w' h' => hQ1 _ _ _ _ h') (fun i hi => (h1.mem i).1 (by simp [hi])) h' a4
        · exact sim_pairs (Q := Q .normal) hG hT (fun S' ν' tmps' w' h' => hQ2 _ _ _ _ h') (fun i hi => (h2.mem i).1 (by simp [hi])) h' b4
      · cases hr1
    · rw [if_neg hc] at hr1
      exact sim_code hm hG hT _ h hr1 hQ1
  | seq a b iha ihb =>
    intro ho st st1 st2 e1 e2 S ν tmps w Q h hr1 hr2 hQ1 hQ2
    have ho : (onceR t.id a && onceR t.id b && !(hasR t.id a && hasR t.id b)) = true := ho
    simp only [Bool.and_eq_true, Bool.not_eq_true'] at ho
    obtain ⟨⟨oa, ob⟩, onot⟩ := ho
    unfold evCodeT at hr1 hr2
    have same : hasR t.id a = true → evCodeT G T A L n t true b = evCodeT G T A L n t false b := fun ha => funext fun st => evT_same b st (by rw [ha, Bool.true_and] at onot; exact onot)
    have sameA : ¬ hasR t.id a = true → ∀ st, evCodeT G T A L n t true a st = evCodeT G T A L n t false a st := fun ha st => evT_same a st (by simpa using ha)
    split at hr1
    · rename_i l hl
      rw [hl] at hr2
      dsimp only at hr2
      obtain ⟨s, hs, hr1⟩ := run_bnd hr1
      obtain ⟨s', hs', hr2⟩ := run_bnd hr2
      obtain ⟨⟨ea, sa⟩, k1, k2⟩ := run_bind hs
      obtain ⟨⟨eb, sb⟩, m1, m2⟩ := run_bind hs'
      by_cases ha : hasR t.id a = true
      · have hb := same ha
        refine wp_seq (iha oa h k1 m1 (fun S' ν' tmps' w' h' => ?_) (fun S' ν' tmps' w' h' => ?_))
        · cases ea with
          | normal =>
            simp only [takeJ] at k2
            split at k2
            · rename_i s2 hs2
              cases k2
              obtain ⟨ν2, h2⟩ := lay_ok h' hs2
              exact ihb ob h2 hr1 (by rw [hb]; exact hr1) hQ1 hQ1
            · cases k2
          | exit i => cases k2
          | ret => cases k2
        · cases eb with
          | normal =>
            simp only [takeJ] at m2
            split at m2
            · rename_i s2 hs2
              cases m2
              obtain ⟨ν2, h2⟩ := lay_ok h' hs2
              exact ihb ob h2 (by rw [← hb]; exact hr2) hr2 hQ2 hQ2
            · cases m2
          | exit i => cases m2
          | ret => cases m2
      · rw [sameA ha, k1] at m1
        cases m1
        rw [k2] at m2
        cases m2
        have fin : ∀ S' ν' tmps' w', Inv B X w0 S' ν' sa tmps' w' → (match ea.real with | .normal => b.wp P Q ⟨tmps', ds⟩ w' | e => Q e ⟨tmps', ds⟩ w') := fun S' ν' tmps' w' h' => by
          cases ea with
          | normal =>
            simp only [takeJ] at k2
            split at k2
            · rename_i s2 hs2
              cases k2
              obtain ⟨ν2, h2⟩ := lay_ok h' hs2
              exact ihb ob h2 hr1 hr2 hQ1 hQ2
            · cases k2
          | exit i => cases k2
          | ret => cases k2
        exact wp_seq (iha oa h k1 (by rw [sameA ha]; exact k1) (fun S' ν' tmps' w' h' => by have := fin S' ν' tmps' w' h'; cases ea <;> exact this) (fun S' ν' tmps' w' h' => by have := fin S' ν' tmps' w' h'; cases ea <;> exact this))
    · rename_i hl
      rw [hl] at hr2
      dsimp only at hr2
      obtain ⟨⟨ea, sa⟩, k1, k2⟩ := run_bind hr1
      obtain ⟨⟨eb, sb⟩, m1, m2⟩ := run_bind hr2
      by_cases ha : hasR t.id a = true
      · have hb := same ha
        refine wp_seq (iha oa h k1 m1 (fun S' ν' tmps' w' h' => ?_) (fun S' ν' tmps' w' h' => ?_))
        · cases ea with
          | normal => exact ihb ob h' k2 (by rw [hb]; exact k2) hQ1 hQ1
          | exit i => cases k2; exact hQ1 _ _ _ _ h'
          | ret => cases k2; exact hQ1 _ _ _ _ h'
        · cases eb with
          | normal => exact ihb ob h' (by rw [← hb]; exact m2) m2 hQ2 hQ2
          | exit i => cases m2; exact hQ2 _ _ _ _ h'
          | ret => cases m2; exact hQ2 _ _ _ _ h'
      · rw [sameA ha, k1] at m1
        cases m1
        refine wp_seq (iha oa h k1 (by rw [sameA ha]; exact k1) (fun S' ν' tmps' w' h' => ?_) (fun S' ν' tmps' w' h' => ?_))
        · cases ea with
          | normal => exact ihb ob h' k2 m2 hQ1 hQ2
          | exit i => cases k2; exact hQ1 _ _ _ _ h'
          | ret => cases k2; exact hQ1 _ _ _ _ h'
        · cases ea with
          | normal => exact ihb ob h' k2 m2 hQ1 hQ2
          | exit i => cases k2; exact hQ1 _ _ _ _ h'
          | ret => cases k2; exact hQ1 _ _ _ _ h'
  | cond c x y ihx ihy =>
    intro ho st st1 st2 e1 e2 S ν tmps w Q h hr1 hr2 hQ1 hQ2
    have hxy : (onceR t.id x && onceR t.id y) = true := ho
    rw [Bool.and_eq_true] at hxy
    cases c with
    | tmp d =>
      unfold evCodeT at hr1 hr2
      obtain ⟨b, sa, hb, h1, hr1, hr2⟩ := withBool_two h hr1 hr2
      have he : (⟨tmps, ds⟩ : Act).eval (.tmp d) = .bool b := by
        show tmps.getD d undef = _
        rw [Array.getD_eq_getD_getElem?, hb]; rfl
      refine wp_cond he ?_
      cases b with
      | true => exact ihx hxy.1 h1 hr1 hr2 hQ1 hQ2
      | false => exact ihy hxy.2 h1 hr1 hr2 hQ1 hQ2
    | const v =>
      cases v with
      | bool b =>
        unfold evCodeT at hr1 hr2
        refine wp_cond (t := b) rfl ?_
        cases b with
        | true => exact ihx hxy.1 h hr1 hr2 hQ1 hQ2
        | false => exact ihy hxy.2 h hr1 hr2 hQ1 hQ2
      | _ => cases hr1
    | _ => cases hr1
  | block id c ih =>
    intro ho st st1 st2 e1 e2 S ν tmps w Q h hr1 hr2 hQ1 hQ2
    have ho : onceR t.id c = true := ho
    unfold evCodeT at hr1 hr2
    obtain ⟨⟨ea, sa⟩, k1, k2⟩ := run_bind hr1
    obtain ⟨⟨eb, sb⟩, m1, m2⟩ := run_bind hr2
    have out : ∀ {e e' : Ex} {s s' : St} {S' : Nat → Prop} {ν' : Nat → Value} {tmps' : Array Value} {w' : World}, (∀ S' ν' tmps' w', Inv B X w0 S' ν' s' tmps' w' → Q e'.real ⟨tmps', ds⟩ w') → Inv B X w0 S' ν' s tmps' w' →
        ((match (e, s) with | (.exit i, st) => if Nat.beq i id then .pure (.normal, st) else .pure (.exit i, st) | (e, st) => .pure (e, st) : Tr (Ex × St))).run = some (e', s') →
        (match e.real with | .exit i => (if i = id then Q .normal ⟨tmps', ds⟩ w' else Q (.exit i) ⟨tmps', ds⟩ w') | e => Q e ⟨tmps', ds⟩ w') := by
      intro e e' s s' S' ν' tmps' w' hQ h' k2
      cases e with
      | normal => cases k2; exact hQ _ _ _ _ h'
      | exit i =>
        dsimp only at k2
        show (if i = id then Q .normal _ _ else Q (.exit i) _ _)
        split at k2
        · rename_i hi
          rw [if_pos (nbeq.1 hi)]
          cases k2
          exact hQ _ _ _ _ h'
        · rename_i hi
          rw [if_neg (fun e => hi (nbeq.2 e))]
          cases k2
          exact hQ _ _ _ _ h'
      | ret => cases k2; exact hQ _ _ _ _ h'
    refine wp_block (ih ho h k1 m1 (fun S' ν' tmps' w' h' => ?_) (fun S' ν' tmps' w' h' => ?_))
    · have := out hQ1 h' k2
      cases ea <;> exact this
    · have := out hQ2 h' m2
      cases eb <;> exact this
  | _ =>
    intro _ st st1 st2 e1 e2 S ν tmps w Q h hr1 hr2 hQ1 hQ2
    exact sim_code hm hG hT _ h hr1 hQ1
theorem evRet_ok (hG : CtxOk P G) {S' : Nat → Prop} {ν' : Nat → Value} {tmps' : Array Value} {w w' : World} {fn : Func} {rs : List RTy} {r : RTys.I rs} (h' : Inv w.heap.size Lnt.none w S' ν' st' tmps' w') (hr : (if nodupTags (rowTags G st' rs fn.results.toList) then (match retAll G st' rs fn.results.toList with | some y => (Tr.pure y : Tr (RTys.I rs)) | none => .fail) else .fail).run = some r) :
    ∃ v, (results fn tmps').run P w' = .ok v w' ∧ ∃ u, Ending.returned v = .returned u ∧ Below w.heap.size w w' ∧ RetRd w.heap.size w' rs r u := by
  split at hr
  · rename_i hn
    split at hr
    · rename_i y hy
      cases hr
      obtain ⟨vs, m1, _, m3, m4⟩ := retAll_ok hG h' (S1 := S') (fun _ h => h) hy
      have hsub : ∀ b, b ∈ rowBlocks rs vs → S' b := fun b hb => by
        obtain ⟨g, o, _, e1, e2⟩ := m3 b hb
        exact h'.own g o b e1 e2
      obtain ⟨vs2, q1, q2, _, _⟩ := retAll_ok hG h' (S1 := fun b => b ∈ rowBlocks rs vs) hsub hy
      have huniq : ∀ (l : List ResultVar) (us vs : List Value), AllRes P tmps' w' l us → AllRes P tmps' w' l vs → us = vs := by
        intro l
        induction l with
        | nil =>
          intro us vs h1 h2
          have h1 : us = [] := h1
          have h2 : vs = [] := h2
          rw [h1, h2]
        | cons r l ih =>
          rintro _ _ ⟨v, us, rfl, a1, a2⟩ ⟨v', us', rfl, b1, b2⟩
          have a1 : (resSem tmps' r).run P w' = .ok v w' := a1
          have b1 : (resSem tmps' r).run P w' = .ok v' w' := b1
          rw [a1] at b1
          injection b1 with b1
          rw [b1, ih _ _ a2 b2]
      have := huniq _ _ _ q1 m1
      subst this
      have hlen : vs2.length = rs.length := q2.len
      refine ⟨_, res_run m1, _, rfl, h'.fr.below, vs2, ?_, m4 (nodup_tags hn), q2⟩
      match rs, vs2, hlen with
      | [], [], _ => rfl
      | [_], [_], _ => rfl
      | _ :: _ :: _, _ :: _ :: _, _ => rfl
    · cases hr
  · cases hr
theorem evFunW_ok (hm : P.follows .mixedOrders = true) (hG : CtxOk P G) (hT : ∀ f fa, T f = some fa → CalleeOk P f fa ∧ (fa.isPlain = false → inList f A.lents = true)) {f : FuncId} {fn : Func} (hf : P.funcs[f]? = some fn) (hname : (fn.name == "runtime.NumGoroutine") = false) {ps : List Ty} {rs : List RTy} {t : Twin}
    (F : Tys.I ps → Option (RTys.I rs)) (hF1 : ∀ x, (evFunW G T A L t false fn ps rs x).run = F x) (hF2 : ∀ x, (evFunW G T A L t true fn ps rs x).run = F x) (hb : fn.body.isSome = true) (_hres : fn.results.size = rs.length) : FunOk P f ⟨ps, rs, F⟩ := by
  cases hc : fn.body with
  | none => rw [hc] at hb; cases hb
  | some c =>
    refine ⟨⟨fn, c, hf, hname, hc⟩, fun x r hx w args hla hargs => ?_⟩
    have hx : F x = some r := hx
    have hx1 := hx
    have hx2 := hx
    rw [← hF1] at hx1
    rw [← hF2] at hx2
    have hstart := start_ok hla hargs fn.ntmps
    unfold evFunW at hx1 hx2
    rw [hc] at hx1 hx2
    dsimp only at hx1 hx2
    split at hx1
    · rename_i ho
      rw [if_pos ho] at hx2
      obtain ⟨⟨e1, s1⟩, k1, k2⟩ := run_bind hx1
      obtain ⟨⟨e2, s2⟩, m1, m2⟩ := run_bind hx2
      refine calls_of_wp hf hc (sim_two (ds := []) hm hG hT c ho hstart k1 m1 (fun S' ν' tmps' w' h' => ?_) (fun S' ν' tmps' w' h' => ?_))
      · cases e1 with
        | normal =>
          obtain ⟨v, h1, u, h2, h3⟩ := evRet_ok hG h' k2
          exact ⟨rfl, v, h1, u, h2, h3⟩
        | ret =>
          obtain ⟨v, h1, u, h2, h3⟩ := evRet_ok hG h' k2
          exact ⟨rfl, v, h1, u, h2, h3⟩
        | exit i => cases k2
      · cases e2 with
        | normal =>
          obtain ⟨v, h1, u, h2, h3⟩ := evRet_ok hG h' m2
          exact ⟨rfl, v, h1, u, h2, h3⟩
        | ret =>
          obtain ⟨v, h1, u, h2, h3⟩ := evRet_ok hG h' m2
          exact ⟨rfl, v, h1, u, h2, h3⟩
        | exit i => cases m2
    · cases hx1
theorem Tr.swap2 {α β γ : Type} (a : Option α) (b : Option β) (k : α → β → Tr γ) : (Tr.bnd a fun x => Tr.bnd b fun y => k x y).run = (Tr.bnd b fun y => Tr.bnd a fun x => k x y).run := by
  cases a <;> cases b <;> rfl
theorem Tr.bnd_congr {α γ : Type} {a : Option α} {k k' : α → Tr γ} (h : ∀ x, (k x).run = (k' x).run) : (Tr.bnd a k).run = (Tr.bnd a k').run := by
  cases a with
  | none => rfl
  | some x => exact h x
theorem Tr.br_congr {γ : Type} {c : Bool} {t t' e e' : Tr γ} (h1 : t.run = t'.run) (h2 : e.run = e'.run) : (Tr.br c t e).run = (Tr.br c t' e').run := by
  cases c
  · exact h2
  · exact h1
theorem Tr.alt_congr {α β γ : Type} {o : Option (Sum α β)} {k k' : α → Tr γ} {j j' : β → Tr γ} (h1 : ∀ x, (k x).run = (k' x).run) (h2 : ∀ x, (j x).run = (j' x).run) : (Tr.alt o k j).run = (Tr.alt o k' j').run := by
  cases o with
  | none => rfl
  | some z => cases z with
    | inl b => exact h1 b
    | inr b => exact h2 b
theorem Tr.box_l {α γ : Type} {x : α} {k : α → Tr γ} {r : Option γ} (h : (k x).run = r) : (Tr.bnd (idx [x] 0) k).run = r := h
theorem Tr.box_r {α γ : Type} {x : α} {k : α → Tr γ} {r : Option γ} (h : r = (k x).run) : r = (Tr.bnd (idx [x] 0) k).run := h
end Go.Proofs.YtnldcpanpojeiaaGreatDoor
