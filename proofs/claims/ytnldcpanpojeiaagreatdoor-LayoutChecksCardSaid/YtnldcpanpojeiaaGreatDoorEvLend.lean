/-
  Windows of rows: what lies in them, and the row with other contents in a window.
-/
import Derived.Test.YtnldcpanpojeiaaGreatDoorEvMem5
namespace Go.Proofs.YtnldcpanpojeiaaGreatDoor
open Go.RowKit
variable {P : Program} {Λ : List Nat} {G : Ctx} {A : Ann} {B : Nat} {X : Lnt} {w0 w w' : World} {S S' : Nat → Prop} {ν : Nat → Value} {st st' : St} {tmps : Array Value} {ds : List Deferred}
theorem win_rows {e : Ty} {xs : List e.I} {cs : List Value} (h : RowRd w S e xs cs) (lo n : Nat) : RowRd w S e ((xs.drop lo).take n) ((cs.drop (lo * e.size)).take (n * e.size)) := by
  intro j x hj
  rw [List.getElem?_take] at hj
  split at hj
  · rename_i hjn
    rw [List.getElem?_drop] at hj
    obtain ⟨us, k1, k2⟩ := h (lo + j) x hj
    refine ⟨us, k1, fun i u hu => ?_⟩
    have hil : i < e.size := by
      rcases Nat.lt_or_ge i us.length with h' | h'
      · rw [k1.len] at h'; exact h'
      · rw [List.getElem?_eq_none h'] at hu; cases hu
    have : (j + 1) * e.size ≤ n * e.size := Nat.mul_le_mul_right _ hjn
    rw [Nat.add_mul] at this
    rw [List.getElem?_take, if_pos (by omega), List.getElem?_drop, ← k2 i u hu, Nat.add_mul]
    congr 1
    omega
  · cases hj
theorem splice'_len {α : Type} {xs ys : List α} {lo n : Nat} (h : lo + n ≤ xs.length) (hn : ys.length = n) : (splice' xs lo n ys).length = xs.length := by
  simp only [splice', List.length_append, List.length_take, List.length_drop]; omega
theorem splice'_out {α : Type} {xs ys : List α} {lo n j : Nat} (h : lo + n ≤ xs.length) (hn : ys.length = n) (hj : j < lo ∨ lo + n ≤ j) : (splice' xs lo n ys)[j]? = xs[j]? := by
  unfold splice'
  rcases hj with hj | hj
  · rw [List.append_assoc, List.getElem?_append_left (by rw [List.length_take]; omega), List.getElem?_take, if_pos hj]
  · rw [List.getElem?_append_right (by simp only [List.length_append, List.length_take]; omega), List.getElem?_drop]
    congr 1
    simp only [List.length_append, List.length_take]; omega
theorem splice'_in {α : Type} {xs ys : List α} {lo n j : Nat} (h : lo + n ≤ xs.length) (hn : ys.length = n) (hj : j < n) : (splice' xs lo n ys)[lo + j]? = ys[j]? := by
  unfold splice'
  rw [List.getElem?_append_left (by simp only [List.length_append, List.length_take]; omega), List.getElem?_append_right (by rw [List.length_take]; omega)]
  congr 1
  rw [List.length_take]; omega
theorem splice_rows {e : Ty} {xs ys : List e.I} {cs cy : List Value} (h : RowRd w S e xs cs) (hl : cs.length = xs.length * e.size) (hy : RowRd w S e ys cy) (hyl : cy.length = ys.length * e.size) {lo n : Nat} (hn : ys.length = n) (hln : lo + n ≤ xs.length) :
    RowRd w S e (splice' xs lo n ys) (splice cs (lo * e.size) cy) := by
  have hm : (lo + n) * e.size ≤ xs.length * e.size := Nat.mul_le_mul_right _ hln
  rw [Nat.add_mul] at hm
  rw [hn] at hyl
  intro j x hj
  have hsz : ∀ {us : List Value}, Rd w S e x us → ∀ i u, us[i]? = some u → i < e.size := by
    intro us k1 i u hu
    rcases Nat.lt_or_ge i us.length with h' | h'
    · rw [k1.len] at h'; exact h'
    · rw [List.getElem?_eq_none h'] at hu; cases hu
  by_cases hout : j < lo ∨ lo + n ≤ j
  · rw [splice'_out hln hn hout] at hj
    obtain ⟨us, k1, k2⟩ := h j x hj
    refine ⟨us, k1, fun i u hu => ?_⟩
    have hi := hsz k1 i u hu
    rw [splice_out (by omega), k2 i u hu]
    rcases hout with hout | hout
    · left
      have : (j + 1) * e.size ≤ lo * e.size := Nat.mul_le_mul_right _ hout
      rw [Nat.add_mul] at this; omega
    · right
      have : (lo + n) * e.size ≤ j * e.size := Nat.mul_le_mul_right _ hout
      rw [Nat.add_mul] at this; omega
  · obtain ⟨t, rfl⟩ : ∃ t, j = lo + t := ⟨j - lo, by omega⟩
    have ht : t < n := by omega
    rw [splice'_in hln hn ht] at hj
    obtain ⟨us, k1, k2⟩ := hy t x hj
    refine ⟨us, k1, fun i u hu => ?_⟩
    have hi := hsz k1 i u hu
    have : (t + 1) * e.size ≤ n * e.size := Nat.mul_le_mul_right _ ht
    rw [Nat.add_mul] at this
    rw [Nat.add_mul, Nat.add_assoc, splice_in (by omega) (by omega)]
    exact k2 i u hu
theorem window_rd {M : Nat → Prop} {e : Ty} {eid : TypeId} {xs : List e.I} {cs : List Value} {b k0 : Nat} {cur : Array Value} (hblk : w.heap[b]? = some (.cells cur eid (0, 0))) (hrow : RowRd w S e xs cs)
    (hcs : (cur.toList.drop k0).take (xs.length * e.size) = cs) (hsz : k0 + xs.length * e.size ≤ cur.size) {lo n k' cap' : Nat} (hn : n ≤ cap') (hln : lo + n ≤ xs.length) (hk : k' = k0 + lo * e.size ∨ (n = 0 ∧ k' = k0)) :
    WinRd w S ⟨.slice (some ⟨b, k', none⟩) n cap', k', n * e.size, M, fun _ => False⟩ ⟨eid, false, e, (xs.drop lo).take n⟩ := by
  have hm : (lo + n) * e.size ≤ xs.length * e.size := Nat.mul_le_mul_right _ hln
  rw [Nat.add_mul] at hm
  have hcur : cur.toList.length = cur.size := Array.length_toList
  have hwl : ((xs.drop lo).take n).length = n := by rw [List.length_take, List.length_drop]; omega
  refine ⟨(cs.drop (lo * e.size)).take (n * e.size), ?_, win_rows hrow lo n, .inr ⟨b, cap', cur, by rw [hwl], by dsimp only; omega, by rw [hwl], hblk, ?_, ?_⟩⟩
  · dsimp only
    rw [hwl, List.length_take, List.length_drop, ← hcs, List.length_take, List.length_drop]
    omega
  · dsimp only
    rcases hk with rfl | ⟨rfl, rfl⟩ <;> omega
  · dsimp only
    rcases hk with rfl | ⟨rfl, rfl⟩
    · rw [← hcs, List.drop_take, List.take_take, List.drop_drop, Nat.min_eq_left (by omega)]
    · simp
theorem window_back {M : Nat → Prop} (hM : ∀ c, M c → S c) {e : Ty} {eid : TypeId} {xs ys : List e.I} {cs : List Value} {b k0 : Nat} {cur : Array Value} (hblk : w.heap[b]? = some (.cells cur eid (0, 0))) (hrow : RowRd w S e xs cs)
    (hcs : (cur.toList.drop k0).take (xs.length * e.size) = cs) (hsz : k0 + xs.length * e.size ≤ cur.size) {lo n k' cap' : Nat} (hln : lo + n ≤ xs.length) (hk : k' = k0 + lo * e.size ∨ (n = 0 ∧ k' = k0))
    (hK : Kept w.heap.size ⟨.slice (some ⟨b, k', none⟩) n cap', k', n * e.size, M, fun _ => False⟩ w w') (hSb : S b) (hSS : ∀ b, b < w.heap.size → S' b → S b) (hw' : WinRd w' S' ⟨.slice (some ⟨b, k', none⟩) n cap', k', n * e.size, M, fun _ => False⟩ ⟨eid, false, e, ys⟩) :
    ys.length = n ∧ ∃ cur' cs', w'.heap[b]? = some (.cells cur' eid (0, 0)) ∧ cur'.size = cur.size ∧ (∀ j : Nat, (j < k0 ∨ k0 + xs.length * e.size ≤ j) → cur'[j]? = cur[j]?) ∧
      (cur'.toList.drop k0).take (xs.length * e.size) = cs' ∧ RowRd w' S' e (splice' xs lo n ys) cs' ∧ cs'.length = xs.length * e.size := by
  have hm : (lo + n) * e.size ≤ xs.length * e.size := Nat.mul_le_mul_right _ hln
  rw [Nat.add_mul] at hm
  have hcur : cur.toList.length = cur.size := Array.length_toList
  have hl : cs.length = xs.length * e.size := by rw [← hcs, List.length_take, List.length_drop]; omega
  obtain ⟨cy, hyl, hyrow, hyw⟩ := hw'
  rcases hyw with ⟨e1, _⟩ | ⟨b2, cap2, cur', e1, _, _, hb', hs', hcy⟩
  · cases e1
  · dsimp only at e1 hyl hb' hs' hcy
    injection e1 with e1 e2 e3
    injection e1 with e1
    injection e1 with e1
    subst e1
    obtain ⟨c1, c1', eid1, g1, g2, g3, g4⟩ := hK.win b rfl
    rw [hblk] at g1
    injection g1 with g1
    injection g1 with g1 g1'
    subst g1
    rw [hb'] at g2
    injection g2 with g2
    injection g2 with g2 _
    subst g2
    dsimp only at g4
    rw [← e2] at hyl
    have hcur' : cur'.toList.length = cur.size := by rw [Array.length_toList]; exact g3
    have hkeep : RowRd w' S' e xs cs := hrow.keep hK.size hSS (fun c hc hn => hK.block c hc (fun e => hn (by cases e; exact hSb)) (fun h => hn (hM c h)))
    refine ⟨e2.symm, cur', splice cs (lo * e.size) cy, hb', g3, fun j hj => g4 j (by rcases hk with rfl | ⟨rfl, rfl⟩ <;> omega), ?_, splice_rows hkeep hl hyrow (by rw [hyl, e2]) e2.symm hln, by rw [splice_len (by omega)]; exact hl⟩
    apply List.ext_getElem?
    intro j
    by_cases hj : j < xs.length * e.size
    · rw [List.getElem?_take, if_pos hj, List.getElem?_drop, Array.getElem?_toList]
      by_cases hout : j < lo * e.size ∨ lo * e.size + cy.length ≤ j
      · rw [splice_out (by omega) hout, g4 (k0 + j) (by rcases hk with rfl | ⟨rfl, rfl⟩ <;> omega), ← hcs, List.getElem?_take, if_pos hj, List.getElem?_drop, Array.getElem?_toList]
      · obtain ⟨t, rfl⟩ : ∃ t, j = lo * e.size + t := ⟨j - lo * e.size, by omega⟩
        rw [splice_in (by omega) (by omega)]
        rcases hk with rfl | ⟨rfl, rfl⟩
        · rw [← hcy, List.getElem?_take, if_pos (by omega), List.getElem?_drop, Array.getElem?_toList, Nat.add_assoc]
        · omega
    · rw [List.getElem?_eq_none (by rw [List.length_take]; omega), List.getElem?_eq_none (by rw [splice_len (by omega)]; omega)]
theorem lend_obj {hv v : Value} {o : Obj} (h : ObjRd B w S hv o) {lo n : Nat} (hv' : WinVal hv o.e.size lo n v) (hln : lo + n ≤ o.xs.length) (hSb : ∀ b, hv.ownBlock = some b → S b) (M : Nat → Prop) (hM : ∀ c, M c → S c) :
    ∃ X' : Lnt, X'.v = v ∧ (X'.more = M ∧ X'.av = fun _ => False) ∧ v.ownBlock = hv.ownBlock ∧ WinRd w (Av S B o.fr) X' ⟨o.eid, false, o.e, (o.xs.drop lo).take n⟩ ∧
      ∀ w' ys S', (∀ b, b < w.heap.size → S' b → S b) → Kept w.heap.size X' w w' → WinRd w' (Av S' B o.fr) X' ⟨o.eid, false, o.e, ys⟩ → ys.length = n ∧ ObjRd B w' S' hv ⟨o.eid, o.fr, o.e, splice' o.xs lo n ys⟩ ∧
        (∀ b, hv.ownBlock = some b → ∃ cur, w.heap[b]? = some (.cells cur o.eid (0, 0))) := by
  obtain ⟨cs, hown, hrow⟩ := h
  rcases hv' with ⟨e1, rfl, hn0, _⟩ | ⟨b, k, m, cap, k', cap', e1, rfl, hn, hlm, hk⟩
  · subst hn0
    subst e1
    refine ⟨⟨.slice none 0 0, 0, 0, M, fun _ => False⟩, rfl, ⟨rfl, rfl⟩, rfl, ⟨[], by simp, fun j x hj => by simp at hj, .inl ⟨rfl, by simp⟩⟩, fun w' ys S' hSS hK hw' => ?_⟩
    obtain ⟨cy, hyl, hyrow, hyw⟩ := hw'
    rcases hyw with ⟨_, hy0⟩ | ⟨_, _, _, e, _⟩
    · dsimp only at hy0
      have : ys = [] := List.eq_nil_of_length_eq_zero hy0
      subst this
      refine ⟨rfl, ?_, fun b hb => by simp [Value.ownBlock] at hb⟩
      rcases hown.2 with ⟨_, h0⟩ | ⟨_, _, _, e, _⟩
      · have hx : o.xs = [] := List.eq_nil_of_length_eq_zero h0
        refine ⟨[], ⟨by simp [splice', hx], .inl ⟨rfl, by simp [splice', hx]⟩⟩, ?_⟩
        intro j x hj
        simp [splice', hx] at hj
      · cases e
    · cases e
  · rcases hown.2 with ⟨e2, _⟩ | ⟨g, capo, cur, e2, hBg, hblk, hnc, hcm, hcsz, htake⟩
    · rw [e1] at e2; cases e2
    · rw [e1] at e2
      injection e2 with e2 e3 e4
      injection e2 with e2
      injection e2 with e2 e5 _
      subst e2 e3 e4 e5
      have hsz : 0 + o.xs.length * o.e.size ≤ cur.size := by
        have : o.xs.length * o.e.size ≤ cap * o.e.size := Nat.mul_le_mul_right _ hnc
        omega
      have hcs : (cur.toList.drop 0).take (o.xs.length * o.e.size) = cs := by simpa using htake
      refine ⟨⟨.slice (some ⟨b, k', none⟩) n cap', k', n * o.e.size, M, fun _ => False⟩, rfl, ⟨rfl, rfl⟩, by rw [e1]; rfl, window_rd hblk hrow hcs hsz hn hln hk, fun w' ys S' hSS hK hw' => ?_⟩
      have hSb' : S b := hSb b (by rw [e1]; rfl)
      obtain ⟨h1, cur', cs', h2, h3, h4, h5, h6, h7⟩ := window_back (fun c hc => .inl (hM c hc)) hblk hrow hcs hsz hln hk hK (.inl hSb') (fun b hb hs => hs.imp (hSS b hb) id) hw'
      refine ⟨h1, ⟨cs', ⟨by rw [h7, splice'_len hln h1], .inr ⟨b, cap, cur', by rw [e1, splice'_len hln h1], hBg, h2, by rw [splice'_len hln h1]; exact hnc, hcm, by dsimp only; rw [h3]; exact hcsz, by rw [splice'_len hln h1]; simpa using h5⟩⟩, h6⟩, fun b' hb' => ?_⟩
      rw [e1] at hb'
      cases hb'
      exact ⟨cur, hblk⟩
theorem lend_win {v : Value} {o : Obj} {S1 : Nat → Prop} (h : WinRd w S1 X o) {lo n : Nat} (hv' : WinVal X.v o.e.size lo n v) (hln : lo + n ≤ o.xs.length) (hSb : ∀ b, X.v.ownBlock = some b → S1 b) (M : Nat → Prop) (hM : ∀ c, M c → S1 c) :
    ∃ X' : Lnt, X'.v = v ∧ (X'.more = M ∧ X'.av = fun _ => False) ∧ v.ownBlock = X.v.ownBlock ∧ WinRd w S1 X' ⟨o.eid, false, o.e, (o.xs.drop lo).take n⟩ ∧
      ∀ w' ys S', (∀ b, b < w.heap.size → S' b → S1 b) → Kept w.heap.size X' w w' → WinRd w' S' X' ⟨o.eid, false, o.e, ys⟩ → ys.length = n ∧ WinRd w' S' X ⟨o.eid, false, o.e, splice' o.xs lo n ys⟩ ∧
        (∀ b, X.v.ownBlock = some b → ∃ cur cur', w.heap[b]? = some (.cells cur o.eid (0, 0)) ∧ w'.heap[b]? = some (.cells cur' o.eid (0, 0)) ∧ cur'.size = cur.size ∧ ∀ j : Nat, (j < X.k ∨ X.k + X.n ≤ j) → cur'[j]? = cur[j]?) := by
  obtain ⟨cs, hl, hrow, hw⟩ := h
  rcases hv' with ⟨e1, rfl, hn0, _⟩ | ⟨b, k, m, cap, k', cap', e1, rfl, hn, hlm, hk⟩
  · subst hn0
    refine ⟨⟨.slice none 0 0, 0, 0, M, fun _ => False⟩, rfl, ⟨rfl, rfl⟩, by rw [e1], ⟨[], by simp, fun j x hj => by simp at hj, .inl ⟨rfl, by simp⟩⟩, fun w' ys S' hSS hK hw' => ?_⟩
    obtain ⟨cy, hyl, hyrow, hyw⟩ := hw'
    rcases hyw with ⟨_, hy0⟩ | ⟨_, _, _, e, _⟩
    · dsimp only at hy0
      have : ys = [] := List.eq_nil_of_length_eq_zero hy0
      subst this
      refine ⟨rfl, ?_, fun b hb => by rw [e1] at hb; simp [Value.ownBlock] at hb⟩
      rcases hw with ⟨_, h0⟩ | ⟨_, _, _, e, _⟩
      · have hx : o.xs = [] := List.eq_nil_of_length_eq_zero h0
        refine ⟨[], by simp [splice', hx], ?_, .inl ⟨e1, by simp [splice', hx]⟩⟩
        intro j x hj
        simp [splice', hx] at hj
      · rw [e1] at e; cases e
    · cases e
  · rcases hw with ⟨e2, _⟩ | ⟨g, capo, cur, e2, hnc, hXn, hblk, hsz, hcs⟩
    · rw [e1] at e2; cases e2
    · have e0 := e2
      rw [e1] at e2
      injection e2 with e2 e3 e4
      injection e2 with e2
      injection e2 with e2 e5 _
      subst e2 e3 e4
      rw [hXn] at hcs hsz
      rw [e5] at hk
      refine ⟨⟨.slice (some ⟨b, k', none⟩) n cap', k', n * o.e.size, M, fun _ => False⟩, rfl, ⟨rfl, rfl⟩, by rw [e1]; rfl, window_rd hblk hrow hcs hsz hn hln hk, fun w' ys S' hSS hK hw' => ?_⟩
      have hSb' : S1 b := hSb b (by rw [e1]; rfl)
      obtain ⟨h1, cur', cs', h2, h3, h4, h5, h6, h7⟩ := window_back hM hblk hrow hcs hsz hln hk hK hSb' hSS hw'
      refine ⟨h1, ⟨cs', by rw [h7, splice'_len hln h1], h6, .inr ⟨b, cap, cur', by rw [e0, splice'_len hln h1], by rw [splice'_len hln h1]; exact hnc, by rw [splice'_len hln h1]; exact hXn, h2, by rw [hXn, h3]; exact hsz, by rw [hXn]; exact h5⟩⟩, fun b' hb' => ?_⟩
      rw [e1] at hb'
      cases hb'
      exact ⟨cur, cur', hblk, h2, h3, fun j hj => h4 j (by rw [hXn] at hj; exact hj)⟩
end Go.Proofs.YtnldcpanpojeiaaGreatDoor
