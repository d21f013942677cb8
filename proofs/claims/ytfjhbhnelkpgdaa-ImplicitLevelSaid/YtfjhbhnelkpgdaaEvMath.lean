/-
  Plain facts about the readings: loops by an invariant and a measure, wrapped numbers, list operations with a limit.
-/
import Derived.Test.YtfjhbhnelkpgdaaEvFrame
namespace Go.Proofs.Ytfjhbhnelkpgdaa

/-! ### trees -/
theorem Tr.run_pure {α : Type} (a : α) : (Tr.pure a).run = some a := rfl
theorem Tr.run_fail {α : Type} : (Tr.fail : Tr α).run = none := rfl
theorem Tr.run_br {α : Type} (c : Bool) (t e : Tr α) : (Tr.br c t e).run = if c = true then t.run else e.run := by cases c <;> rfl
theorem Tr.run_bnd {α β : Type} (o : Option β) (k : β → Tr α) : (Tr.bnd o k).run = o.bind fun b => (k b).run := by cases o <;> rfl
theorem Tr.run_bnd_some {α β : Type} {o : Option β} {b : β} (h : o = some b) (k : β → Tr α) : (Tr.bnd o k).run = (k b).run := by subst h; rfl
theorem Tr.run_alt_inl {α β γ : Type} {o : Option (Sum β γ)} {b : β} (h : o = some (.inl b)) (k : β → Tr α) (j : γ → Tr α) : (Tr.alt o k j).run = (k b).run := by subst h; rfl
theorem Tr.run_alt_inr {α β γ : Type} {o : Option (Sum β γ)} {c : γ} (h : o = some (.inr c)) (k : β → Tr α) (j : γ → Tr α) : (Tr.alt o k j).run = (j c).run := by subst h; rfl

/-! ### loops -/
theorem loopF_more {σ ρ : Type} {f : σ → Option (Lap σ ρ)} : ∀ {n m : Nat} {s : σ} {r : ρ}, loopF f n s = some r → n ≤ m → loopF f m s = some r
  | 0, _, _, _, h, _ => by cases h
  | n + 1, 0, _, _, _, hm => by omega
  | n + 1, m + 1, s, r, h, hm => by
    unfold loopF at h ⊢
    cases hf : f s with
    | none => rw [hf] at h; cases h
    | some l =>
      rw [hf] at h
      cases l with
      | next s' => exact loopF_more h (by omega)
      | done r' => exact h
theorem loopW_eq {σ ρ : Type} {f : σ → Option (Lap σ ρ)} {n : Nat} {s : σ} {r : ρ} (h : loopF f n s = some r) : loopW f s = some r := by
  have he : ∃ n r, loopF f n s = some r := ⟨n, r, h⟩
  unfold loopW
  rw [dif_pos he]
  have h2 := Classical.choose_spec (Classical.choose_spec he)
  have a := loopF_more h (Nat.le_max_left n (Classical.choose he))
  have b := loopF_more h2 (Nat.le_max_right n (Classical.choose he))
  rw [a] at b
  exact b.symm
theorem loopW_done {σ ρ : Type} {f : σ → Option (Lap σ ρ)} {s : σ} {r : ρ} (h : f s = some (.done r)) : loopW f s = some r :=
  loopW_eq (n := 1) (by unfold loopF; rw [h])
theorem loopW_next {σ ρ : Type} {f : σ → Option (Lap σ ρ)} {s s' : σ} {r : ρ} (h : f s = some (.next s')) (hr : loopW f s' = some r) : loopW f s = some r := by
  obtain ⟨n, hn⟩ := loopW_some hr
  exact loopW_eq (n := n + 1) (by unfold loopF; rw [h]; exact hn)
/-- an invariant and a measure -/
theorem loopW_rule {σ ρ : Type} {f : σ → Option (Lap σ ρ)} (I : σ → Prop) (m : σ → Nat) (Q : ρ → Prop) (h : ∀ s, I s → (∃ s', f s = some (.next s') ∧ I s' ∧ m s' < m s) ∨ (∃ r, f s = some (.done r) ∧ Q r)) :
    ∀ s, I s → ∃ r, loopW f s = some r ∧ Q r := by
  have key : ∀ (n : Nat) s, m s < n → I s → ∃ r, loopW f s = some r ∧ Q r := by
    intro n
    induction n with
    | zero => intro s hs; omega
    | succ n ih =>
      intro s hs hi
      rcases h s hi with ⟨s', h1, h2, h3⟩ | ⟨r, h1, h2⟩
      · obtain ⟨r, h4, h5⟩ := ih s' (by omega) h2
        exact ⟨r, loopW_next h1 h4, h5⟩
      · exact ⟨r, loopW_done h1, h2⟩
  exact fun s hi => key (m s + 1) s (by omega) hi

/-! ### numbers -/
theorem wrap64 {n : Int} (h1 : -9223372036854775808 ≤ n) (h2 : n ≤ 9223372036854775807) : IntKind.i64.wrap n = n := by
  simp only [IntKind.wrap, IntKind.signed, IntKind.bits]
  simp
  omega
theorem wrapU8 {n : Int} (h1 : 0 ≤ n) (h2 : n ≤ 255) : IntKind.u8.wrap n = n := by
  simp only [IntKind.wrap, IntKind.signed, IntKind.bits]
  simp
  omega
theorem wf_u8 {n : Int} (h : (Lit.int .u8 n).wf = true) : 0 ≤ n ∧ n ≤ 255 := by
  simpa [Lit.wf, IntKind.min, IntKind.max, IntKind.signed, IntKind.bits] using h
theorem wf_u16 {n : Int} (h : (Lit.int .u16 n).wf = true) : 0 ≤ n ∧ n ≤ 65535 := by
  simpa [Lit.wf, IntKind.min, IntKind.max, IntKind.signed, IntKind.bits] using h
theorem wf_i64 {n : Int} (h : (Lit.int .i64 n).wf = true) : -9223372036854775808 ≤ n ∧ n ≤ 9223372036854775807 := by
  simpa [Lit.wf, IntKind.min, IntKind.max, IntKind.signed, IntKind.bits] using h
theorem wf_i32 {n : Int} (h : (Lit.int .i32 n).wf = true) : -2147483648 ≤ n ∧ n ≤ 2147483647 := by
  simpa [Lit.wf, IntKind.min, IntKind.max, IntKind.signed, IntKind.bits] using h

/-! ### lists -/
theorem idx_get {α : Type} {xs : List α} {i : Int} {k : Nat} (h : i = k) (hk : k < xs.length) : idx xs i = some xs[k] := by
  subst h
  unfold idx
  rw [if_pos (by omega)]
  simp [hk]
theorem app_eq {α : Type} {lim : Nat} {xs ys : List α} (h : xs.length + ys.length ≤ lim) : app lim xs ys = some (xs ++ ys) := if_pos h
theorem mk_eq {α : Type} {lim : Nat} {z : α} {n : Int} {k : Nat} (h : n = k) (hk : k ≤ lim) : mk lim z n = some (List.replicate k z) := by
  subst h
  unfold mk
  rw [if_pos (by omega)]
  simp

end Go.Proofs.Ytfjhbhnelkpgdaa
