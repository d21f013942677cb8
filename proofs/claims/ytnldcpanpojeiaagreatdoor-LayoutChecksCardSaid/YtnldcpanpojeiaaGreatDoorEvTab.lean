/-
  A variable that is laid as a table of pairs: what its cells hold.
-/
import Derived.LaidLaws
import Derived.Handed
import Derived.FnData
namespace Go.Proofs.YtnldcpanpojeiaaGreatDoor
variable {H : Type} {enc : TypeId × Value → H}
theorem trod_int {P : Program} {w : World} {base : Nat} {sp : Nat → Bool} {held : Bool} {fuel : Nat} {t : TypeId} {k : IntKind} {n : Int} {cs : List Value} {p : List MemPlace} (ht : P.underlying t = some (.int k))
    (h : DataW.trod enc P w base sp held fuel t cs = some (.lit (.int k n), p)) : cs = [.int k n] := by
  cases fuel with
  | zero => simp [DataW.trod] at h
  | succ f =>
    unfold DataW.trod at h
    rw [ht] at h
    split at h
    all_goals (first | (rename_i e; cases e; done) | skip)
    all_goals (try simp_all)
    all_goals (try (rename_i e1 _; obtain ⟨⟨h1, _⟩, h2, _⟩ := h; simp_all))
theorem mapM_at {α β : Type} {f : α → Option β} : ∀ {l : List α} {ys : List β}, l.mapM f = some ys → ∀ (i : Nat) (a : α), l[i]? = some a → ∃ y, ys[i]? = some y ∧ f a = some y
  | [], ys, h, i, a, ha => by simp at ha
  | x :: r, ys, h, i, a, ha => by
    rw [List.mapM_cons] at h
    cases hx : f x with
    | none => simp [hx] at h
    | some y =>
      cases hr : r.mapM f with
      | none => simp [hx, hr] at h
      | some zs =>
        simp [hx, hr] at h
        subst h
        cases i with
        | zero => cases ha; exact ⟨y, rfl, hx⟩
        | succ i => exact mapM_at hr i a ha
theorem mapM_len {α β : Type} {f : α → Option β} : ∀ {l : List α} {ys : List β}, l.mapM f = some ys → ys.length = l.length
  | [], ys, h => by simp at h; subst h; rfl
  | x :: r, ys, h => by
    rw [List.mapM_cons] at h
    cases hx : f x with
    | none => simp [hx] at h
    | some y =>
      cases hr : r.mapM f with
      | none => simp [hx, hr] at h
      | some zs =>
        simp [hx, hr] at h
        subst h
        simp [mapM_len hr]
theorem trod_arr {P : Program} {w : World} {base : Nat} {sp : Nat → Bool} {held : Bool} {fuel : Nat} {t e : TypeId} {n : Nat} {ds : List (DataW H)} {cs : List Value} {p : List MemPlace} (ht : P.underlying t = some (.array n e))
    (h : DataW.trod enc P w base sp held fuel t cs = some (.agg ds, p)) : cs.length = P.cellsOf t ∧ ∀ i d, ds[i]? = some d → i < n → ∃ f q, DataW.trod enc P w base sp held f e ((cs.drop (i * P.cellsOf e)).take (P.cellsOf e)) = some (d, q) := by
  cases fuel with
  | zero => simp [DataW.trod] at h
  | succ f =>
    unfold DataW.trod at h
    rw [ht] at h
    have h : (if cs.length = P.cellsOf t then ((List.range n).mapM fun i => DataW.trod enc P w base sp held f e ((cs.drop (i * P.cellsOf e)).take (P.cellsOf e))).map fun xs => (DataW.agg (xs.map (·.1)), xs.flatMap (·.2)) else none) = some (DataW.agg ds, p) := h
    split at h
    · rename_i hl
      refine ⟨hl, fun i d hd hi => ?_⟩
      cases hm : (List.range n).mapM fun i => DataW.trod enc P w base sp held f e ((cs.drop (i * P.cellsOf e)).take (P.cellsOf e)) with
      | none => rw [hm] at h; cases h
      | some xs =>
        rw [hm] at h
        simp only [Option.map_some, Option.some.injEq, Prod.mk.injEq, DataW.agg.injEq] at h
        obtain ⟨rfl, _⟩ := h
        obtain ⟨y, h1, h2⟩ := mapM_at hm i i (by simp [hi])
        rw [List.getElem?_map, h1] at hd
        cases hd
        exact ⟨f, y.2, h2⟩
    · cases h
theorem trod_two {P : Program} {w : World} {base : Nat} {sp : Nat → Bool} {held : Bool} {fuel : Nat} {t : TypeId} {fs : Array Field} {f0 f1 : Field} {d0 d1 : DataW H} {cs : List Value} {p : List MemPlace} (ht : P.underlying t = some (.struct fs)) (hf : fs.toList = [f0, f1])
    (h : DataW.trod enc P w base sp held fuel t cs = some (.agg [d0, d1], p)) : cs.length = P.cellsOf t ∧ (∃ f q, DataW.trod enc P w base sp held f f0.type ((cs.drop f0.offset).take (P.cellsOf f0.type)) = some (d0, q)) ∧ ∃ f q, DataW.trod enc P w base sp held f f1.type ((cs.drop f1.offset).take (P.cellsOf f1.type)) = some (d1, q) := by
  cases fuel with
  | zero => simp [DataW.trod] at h
  | succ f =>
    unfold DataW.trod at h
    rw [ht] at h
    have h : (if cs.length = P.cellsOf t then (fs.toList.mapM fun g => DataW.trod enc P w base sp held f g.type ((cs.drop g.offset).take (P.cellsOf g.type))).map fun xs => (DataW.agg (xs.map (·.1)), xs.flatMap (·.2)) else none) = some (DataW.agg [d0, d1], p) := h
    split at h
    · rename_i hl
      rw [hf] at h
      cases hm : [f0, f1].mapM fun g => DataW.trod enc P w base sp held f g.type ((cs.drop g.offset).take (P.cellsOf g.type)) with
      | none => rw [hm] at h; cases h
      | some xs =>
        rw [hm] at h
        simp only [Option.map_some, Option.some.injEq, Prod.mk.injEq, DataW.agg.injEq] at h
        obtain ⟨e, _⟩ := h
        obtain ⟨y0, a0, b0⟩ := mapM_at hm 0 f0 rfl
        obtain ⟨y1, a1, b1⟩ := mapM_at hm 1 f1 rfl
        have e0 : (xs.map (·.1))[0]? = some d0 := by rw [e]; rfl
        have e1 : (xs.map (·.1))[1]? = some d1 := by rw [e]; rfl
        rw [List.getElem?_map, a0] at e0
        rw [List.getElem?_map, a1] at e1
        cases e0
        cases e1
        exact ⟨hl, ⟨f, y0.2, b0⟩, ⟨f, y1.2, b1⟩⟩
    · cases h
def pairD (k : IntKind) (x : Int × Int) : DataW H := .agg [.lit (.int k x.1), .lit (.int k x.2)]
theorem trod_table {P : Program} {w : World} {base : Nat} {sp : Nat → Bool} {held : Bool} {fuel : Nat} {t e i : TypeId} {n : Nat} {k : IntKind} {fs : Array Field} {f0 f1 : Field} {xs : List (Int × Int)} {cs : List Value} {p : List MemPlace}
    (ht : P.underlying t = some (.array n e)) (he : P.underlying e = some (.struct fs)) (hf : fs.toList = [f0, f1]) (h0 : f0.offset = 0) (h1 : f1.offset = 1) (ht0 : f0.type = i) (ht1 : f1.type = i) (hi : P.underlying i = some (.int k)) (hc : P.cellsOf e = 2) (hci : P.cellsOf i = 1) (hn : xs.length = n)
    (h : DataW.trod enc P w base sp held fuel t cs = some (.agg (xs.map (pairD k)), p)) : ∀ (j : Nat) (x : Int × Int), xs[j]? = some x → cs[j * 2]? = some (.int k x.1) ∧ cs[j * 2 + 1]? = some (.int k x.2) := by
  intro j x hj
  obtain ⟨_, ha⟩ := trod_arr ht h
  obtain ⟨f, q, hq⟩ := ha j (pairD k x) (by rw [List.getElem?_map, hj]; rfl) (by rw [← hn]; exact (List.getElem?_eq_some_iff.1 hj).1)
  obtain ⟨_, ⟨f2, q2, h2⟩, ⟨f3, q3, h3⟩⟩ := trod_two he hf hq
  rw [ht0] at h2
  rw [ht1] at h3
  have e2 := trod_int hi h2
  have e3 := trod_int hi h3
  rw [hci, hc, h0] at e2
  rw [hci, hc, h1] at e3
  have g2 : (List.take 1 (List.drop 0 (List.take 2 (List.drop (j * 2) cs))))[0]? = some (.int k x.1) := by rw [e2]; rfl
  have g3 : (List.take 1 (List.drop 1 (List.take 2 (List.drop (j * 2) cs))))[0]? = some (.int k x.2) := by rw [e3]; rfl
  simp [List.getElem?_take, List.getElem?_drop] at g2 g3
  exact ⟨g2, g3⟩
def flatP (k : IntKind) : List (Int × Int) → List Value
  | [] => []
  | x :: r => .int k x.1 :: .int k x.2 :: flatP k r
theorem flatP_at {k : IntKind} {cs : List Value} : ∀ (xs : List (Int × Int)) (o : Nat), (∀ (j : Nat) (x : Int × Int), xs[j]? = some x → cs[(o + j) * 2]? = some (.int k x.1) ∧ cs[(o + j) * 2 + 1]? = some (.int k x.2)) →
    ∀ (i : Nat) (c : Value), (flatP k xs)[i]? = some c → cs[o * 2 + i]? = some c
  | [], o, _, i, c, hc => by simp [flatP] at hc
  | x :: r, o, h, i, c, hc => by
    obtain ⟨h0, h1⟩ := h 0 x rfl
    match i, hc with
    | 0, hc =>
      cases hc
      simpa using h0
    | 1, hc =>
      cases hc
      simpa using h1
    | i + 2, hc =>
      have := flatP_at r (o + 1) (fun j y hy => by
        have := h (j + 1) y hy
        rwa [show o + (j + 1) = o + 1 + j by omega] at this) i c hc
      rwa [show (o + 1) * 2 + i = o * 2 + (i + 2) by omega] at this
end Go.Proofs.YtnldcpanpojeiaaGreatDoor
