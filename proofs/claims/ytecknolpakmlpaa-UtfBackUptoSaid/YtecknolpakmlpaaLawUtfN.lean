/-
  Where scalars begin: the walk over bytes.
-/
import Derived.Test.YtecknolpakmlpaaLawUtf
namespace Go.Proofs.Ytecknolpakmlpaa
set_option linter.all false

theorem dec_ok {c0 c1 c2 c3 : Int} (h0 : 0 ≤ c0) (h1 : 0 ≤ c1) (h2 : 0 ≤ c2) (h3 : 0 ≤ c3) :
    (1 ≤ (dec c0 c1 c2 c3).2.1 ∧ (dec c0 c1 c2 c3).2.1 ≤ 4) ∧ (0 ≤ (dec c0 c1 c2 c3).1 ∧ (dec c0 c1 c2 c3).1 < 55296 ∨ 57343 < (dec c0 c1 c2 c3).1 ∧ (dec c0 c1 c2 c3).1 ≤ 1114111) ∧
    (2 ≤ (dec c0 c1 c2 c3).2.1 → c1 ≤ 255) ∧ (3 ≤ (dec c0 c1 c2 c3).2.1 → c2 ≤ 255) ∧ (4 ≤ (dec c0 c1 c2 c3).2.1 → c3 ≤ 255) := by
  generalize hd : dec c0 c1 c2 c3 = d
  unfold dec at hd
  rcases lead_cases c0 with ⟨e, hc⟩ | ⟨e, hc⟩ | ⟨e, hc⟩ | ⟨e, hc⟩ | ⟨e, hc⟩ | ⟨e, hc⟩ | ⟨e, hc⟩ | ⟨e, hc⟩ | ⟨e, hc⟩ <;> rw [e] at hd <;> dsimp only at hd
  all_goals (repeat' (split at hd)) <;> subst hd <;> dsimp only <;> omega

/-- how many bytes are those at a place -/
def sz (b : List Int) (p : Nat) : Nat := (decAt b p).2.1.toNat
theorem sz_eq {b : List Int} (hb : Bytes b) (p : Nat) : (decAt b p).2.1 = (sz b p : Int) ∧ 1 ≤ sz b p ∧ sz b p ≤ 4 := by
  obtain ⟨h, _⟩ := dec_ok (gg_nonneg hb p 0) (gg_nonneg hb p 1) (gg_nonneg hb p 2) (gg_nonneg hb p 3)
  unfold sz
  have h' : 1 ≤ (decAt b p).2.1 ∧ (decAt b p).2.1 ≤ 4 := h
  omega
theorem sz_in {b : List Int} (hb : Bytes b) {p : Nat} (hp : p < b.length) : p + sz b p ≤ b.length := by
  obtain ⟨_, _, h2, h3, h4⟩ := dec_ok (gg_nonneg hb p 0) (gg_nonneg hb p 1) (gg_nonneg hb p 2) (gg_nonneg hb p 3)
  obtain ⟨e, a1, a4⟩ := sz_eq hb p
  have e' : (dec (gg b p 0) (gg b p 1) (gg b p 2) (gg b p 3)).2.1 = (sz b p : Int) := e
  rw [e'] at h2 h3 h4
  have g2 : 2 ≤ sz b p → p + 1 < b.length := fun h => gg_lt (h2 (by omega))
  have g3 : 3 ≤ sz b p → p + 2 < b.length := fun h => gg_lt (h3 (by omega))
  have g4 : 4 ≤ sz b p → p + 3 < b.length := fun h => gg_lt (h4 (by omega))
  omega

theorem next_F {b : List Int} (hb : Bytes b) (hl : b.length ≤ 8388608) {p : Nat} (hp : p < b.length) : utf_Next_F b (p : Int) = some ((decAt b p).1, (sz b p : Int)) := by
  unfold utf_Next_F utf_Next_T
  exact Post.run (Post.bnd (read_F hb hl hp) (Post.pure (by rw [(sz_eq hb p).1])))

/-- the places at which scalars begin, from one on -/
def starts (b : List Int) : Nat → Nat → List Nat
  | 0, _ => []
  | f + 1, p => if p < b.length then p :: starts b f (p + sz b p) else []
theorem starts_succ (b : List Int) (f p : Nat) : starts b (f + 1) p = if p < b.length then p :: starts b f (p + sz b p) else [] := rfl
theorem starts_len (b : List Int) : ∀ f p, (starts b f p).length ≤ f
  | 0, _ => Nat.le_refl _
  | f + 1, p => by
    rw [starts_succ]
    split
    · have := starts_len b f (p + sz b p); simp only [List.length_cons]; omega
    · simp
def ats (ps : List Nat) : List Int := ps.map fun (p : Nat) => (p : Int)
def vals (b : List Int) (ps : List Nat) : List Int := ps.map fun p => (decAt b p).1
theorem ats_len (ps : List Nat) : (ats ps).length = ps.length := List.length_map ..
theorem vals_len (b : List Int) (ps : List Nat) : (vals b ps).length = ps.length := List.length_map ..
theorem ats_get {ps : List Nat} {k : Nat} (hk : k < ps.length) (d : Int) : (ats ps).getD k d = (ps.getD k 0 : Nat) := map_getD _ 0 d hk
theorem vals_get (b : List Int) {ps : List Nat} {k : Nat} (hk : k < ps.length) (d : Int) : (vals b ps).getD k d = (decAt b (ps.getD k 0)).1 := map_getD _ 0 d hk

theorem starts_at {b : List Int} (hb : Bytes b) : ∀ f p, b.length ≤ f + p → p ≤ b.length → (p < b.length → (starts b f p).getD 0 0 = p ∧ 0 < (starts b f p).length) ∧
    ∀ k, k < (starts b f p).length → (starts b f p).getD k 0 < b.length ∧
      (k + 1 < (starts b f p).length → (starts b f p).getD (k + 1) 0 = (starts b f p).getD k 0 + sz b ((starts b f p).getD k 0)) ∧
      (k + 1 = (starts b f p).length → b.length = (starts b f p).getD k 0 + sz b ((starts b f p).getD k 0))
  | 0, p, h, _ => ⟨fun h2 => by omega, fun k hk => by cases hk⟩
  | f + 1, p, h, hp => by
    rw [starts_succ]
    by_cases hlt : p < b.length
    · rw [if_pos hlt]
      have hs := sz_eq hb p
      have hin := sz_in hb hlt
      obtain ⟨ih1, ih2⟩ := starts_at hb f (p + sz b p) (by omega) hin
      refine ⟨fun _ => ⟨rfl, by simp⟩, fun k hk => ?_⟩
      cases k with
      | zero =>
        refine ⟨hlt, fun h1 => ?_, fun h1 => ?_⟩
        · have hne : p + sz b p < b.length := by
            by_cases hx : p + sz b p < b.length
            · exact hx
            · have : starts b f (p + sz b p) = [] := by
                cases f with
                | zero => rfl
                | succ f => rw [starts_succ, if_neg hx]
              rw [this] at h1
              simp at h1
          exact (ih1 hne).1
        · by_cases hx : p + sz b p < b.length
          · have := (ih1 hx).2
            simp only [List.length_cons] at h1
            omega
          · show b.length = p + sz b p
            omega
      | succ k =>
        have hk2 : k < (starts b f (p + sz b p)).length := by simp only [List.length_cons] at hk; omega
        obtain ⟨a1, a2, a3⟩ := ih2 k hk2
        refine ⟨a1, fun h1 => a2 (by simp only [List.length_cons] at h1; omega), fun h1 => a3 (by simp only [List.length_cons] at h1; omega)⟩
    · rw [if_neg hlt]
      exact ⟨fun h => absurd h hlt, fun k hk => by cases hk⟩

theorem decode_loop {b : List Int} (hb : Bytes b) (hl : b.length ≤ 8388608) : ∀ f p (rs st : List Int), b.length ≤ f + p → p ≤ b.length → rs.length + f ≤ 16777216 → st.length + f ≤ 16777216 →
    loopW (fun s => (utf_Decode_L4 s.1 s.2.1 s.2.2.1 s.2.2.2).run) (b, rs, st, (p : Int)) = some (rs ++ vals b (starts b f p), st ++ ats (starts b f p))
  | 0, p, rs, st, h, _, _, _ => by
    refine loopW_done (Post.run ?_)
    dsimp only
    unfold utf_Decode_L4
    exact Post.brF (by simp; omega) (Post.pure (by simp [starts, vals, ats]))
  | f + 1, p, rs, st, h, hp, h1, h2 => by
    rw [starts_succ]
    by_cases hlt : p < b.length
    · rw [if_pos hlt]
      have hs := sz_eq hb p
      have hin := sz_in hb hlt
      have ih := decode_loop hb hl f (p + sz b p) (rs ++ [(decAt b p).1]) (st ++ [(p : Int)]) (by omega) hin (by rw [List.length_append, List.length_singleton]; omega) (by rw [List.length_append, List.length_singleton]; omega)
      rw [List.append_assoc, List.append_assoc] at ih
      refine loopW_next (Post.run ?_) ih
      dsimp only
      unfold utf_Decode_L4
      have hw : IntKind.i64.wrap ((p : Int) + (sz b p : Int)) = ((p + sz b p : Nat) : Int) := by rw [wrap64 (by omega) (by omega)]; omega
      refine Post.brT (by simpa using hlt) (Post.bnd (next_F hb hl hlt) (Post.bnd (app_eq (by simp only [List.length_singleton]; omega)) (Post.bnd (app_eq (by simp only [List.length_singleton]; omega)) (Post.pure ?_))))
      rw [hw]
    · rw [if_neg hlt]
      refine loopW_done (Post.run ?_)
      dsimp only
      unfold utf_Decode_L4
      exact Post.brF (by simp; omega) (Post.pure (by simp [vals, ats]))

theorem decode_F {b : List Int} (hb : Bytes b) (hl : b.length ≤ 8388608) : utf_Decode_F b = some (vals b (starts b b.length 0), ats (starts b b.length 0)) := by
  unfold utf_Decode_F utf_Decode_T
  refine Post.run (Post.bnd (decode_loop hb hl b.length 0 [] [] (by omega) (by omega) (by simp; omega) (by simp; omega)) (Post.pure ?_))
  simp

end Go.Proofs.Ytecknolpakmlpaa
