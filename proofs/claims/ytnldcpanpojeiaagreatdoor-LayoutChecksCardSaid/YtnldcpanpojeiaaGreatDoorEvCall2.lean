/-
  Calls of functions that write to what is lent to them.
-/
import Derived.Test.YtnldcpanpojeiaaGreatDoorEvCall
namespace Go.Proofs.YtnldcpanpojeiaaGreatDoor
open Go.RowKit
variable {P : Program} {Λ : List Nat} {G : Ctx} {A : Ann} {T : FuncId → Option Callee} {B : Nat} {X : Lnt} {w0 w w' : World} {S S' : Nat → Prop} {ν : Nat → Value} {st st' : St} {tmps : Array Value} {ds : List Deferred}
def LendOk (B : Nat) (X : Lnt) (w0 : World) (S : Nat → Prop) (ν : Nat → Value) (st : St) (tmps : Array Value) (w : World) (g : Lend) (eid : TypeId) (e : Ty) (xs : List e.I) (v : Value) : Prop :=
  ∃ (X' : Lnt) (Sc : Nat → Prop), X'.v = v ∧ (∀ b, ¬ X'.more b ∧ ¬ X'.av b) ∧ ((∀ b, X'.v.ownBlock = some b → Sc b) ∧ HeldIn w.heap.size X' w) ∧ (∀ b, Sc b → b < w.heap.size) ∧ (e.flat = true → ∀ b, Sc b → lendBlk X ν st g b) ∧ WinRd w Sc X' ⟨eid, false, e, xs⟩ ∧
    ∀ (ds : List Deferred) (w' : World) (ys : List e.I) (rs : List RTy) (r : RTys.I rs) (v' : Value) (vs : List Value) (d : Option Tmp) (st2 st' : St), Kept w.heap.size X' w w' → WinRd w' (fun b => Sc b ∨ b ∈ rowBlocks rs vs) X' ⟨eid, false, e, ys⟩ → RetOf w.heap.size w' rs r v' vs →
      st.back g e ys = some st2 → (evResult st2 d rs r).run = some st' → ∃ S' ν', Inv B X w0 S' ν' st' (Act.put ⟨tmps, ds⟩ d v').tmps w'
theorem cast_same {t : Ty} {x y : t.I} (h : Ty.cast t t x = some y) : x = y := by
  unfold Ty.cast at h; simpa using h
theorem Inv.held (h : Inv B X w0 S ν st tmps w) : Held w := h.base.2.kept h.fr
theorem Inv.laidIn (h : Inv B X w0 S ν st tmps w) {X' : Lnt} (hm : ∀ (i : Nat) (c : Nat × Nat × Value), heldCells[i]? = some c → ¬ X'.more c.1) (hb : ∀ (i : Nat) (c : Nat × Nat × Value), heldCells[i]? = some c → X'.v.ownBlock ≠ some c.1) : HeldIn w.heap.size X' w := fun i c hc => ⟨h.held i c hc, Held.lt (h.held i c hc), hb i c hc, hm i c hc⟩
theorem Inv.notHeld (h : Inv B X w0 S ν st tmps w) {tag : Nat} {o : Obj} (ho : olook tag st.objs = some o) {i : Nat} {c : Nat × Nat × Value} (hc : heldCells[i]? = some c) : (ν tag).ownBlock ≠ some c.1 := fun e => by
  obtain ⟨_, h2, _, h3⟩ := h.base.2 i c hc
  rcases h.nw tag o c.1 ho e with h4 | ⟨_, h4⟩
  · omega
  · exact h3 h4
theorem Inv.laidOwn (h : Inv B X w0 S ν st tmps w) {tag : Nat} {o : Obj} (ho : olook tag st.objs = some o) {X' : Lnt} (hm : ∀ c, ¬ X'.more c) (hb : X'.v.ownBlock = (ν tag).ownBlock) : HeldIn w.heap.size X' w := h.laidIn (fun _ c _ => hm c.1) fun i c hc e => h.notHeld ho hc (hb ▸ e)
theorem Inv.laidLent (h : Inv B X w0 S ν st tmps w) {X' : Lnt} (hm : ∀ c, ¬ X'.more c) (hb : X'.v.ownBlock = X.v.ownBlock) : HeldIn w.heap.size X' w := h.laidIn (fun _ c _ => hm c.1) fun i c hc e => (h.base.2 i c hc).2.2.1 (hb ▸ e)
theorem own_lend (h : Inv B X w0 S ν st tmps w) {tag : Nat} {eid : TypeId} {fr : Bool} {e : Ty} {xs : List e.I} (ho : olook tag st.objs = some ⟨eid, fr, e, xs⟩) {lo n : Nat} {v : Value} (hv : WinVal (ν tag) e.size lo n v) (hln : lo + n ≤ xs.length) :
    LendOk B X w0 S ν st tmps w (.own tag lo n) eid e ((xs.drop lo).take n) v := by
  have hobj := h.obj tag _ ho
  have hown : ∀ b, (ν tag).ownBlock = some b → S b := fun b hb => h.own tag _ b ho hb
  obtain ⟨X', hXv, ⟨hXm, hXa⟩, hblk, hwin, hback⟩ := lend_obj hobj hv hln hown (fun _ => False) (fun _ h => h.elim)
  have hXm : ∀ c, ¬ X'.more c := fun c hc => by rw [hXm] at hc; exact hc
  have hXma : ∀ c, ¬ X'.more c ∧ ¬ X'.av c := fun c => ⟨hXm c, fun hc => by rw [hXa] at hc; exact hc⟩
  have fin : ∀ (ds : List Deferred) (w' : World) (ys : List e.I) (rs : List RTy) (r : RTys.I rs) (v' : Value) (vs : List Value) (d : Option Tmp) (st2 st' : St), Kept w.heap.size X' w w' → WinRd w' (Av (fun b => S b ∨ b ∈ rowBlocks rs vs) B fr) X' ⟨eid, false, e, ys⟩ → RetOf w.heap.size w' rs r v' vs →
      st.back (.own tag lo n) e ys = some st2 → (evResult st2 d rs r).run = some st' → ∃ S' ν', Inv B X w0 S' ν' st' (Act.put ⟨tmps, ds⟩ d v').tmps w' := by
    intro ds w' ys rs r v' vs d st2 st' hK hw hret hb hr
    have hlt := hret.2.2.lt
    obtain ⟨hyl, hobj', _⟩ := hback w' ys (fun b => S b ∨ b ∈ rowBlocks rs vs) (fun b hb hs => hs.resolve_right (fun hs => by have := (hlt b hs).1; omega)) hK hw
    simp only [St.back, ho] at hb
    split at hb
    · rename_i ys' hc
      have := cast_same hc
      subst this
      cases hb
      exact behind_own h ho (by rw [hXv, hblk]) hXm hK hret hobj' rfl (splice'_len hln hyl) hr
    · cases hb
  by_cases hf : e.flat = true
  · refine ⟨X', fun b => v.ownBlock = some b, hXv, hXma, ⟨fun b hb => by rw [hXv] at hb; exact hb, h.laidOwn ho hXm (by rw [hXv, hblk])⟩, fun b hb => h.lt b (hown b (hblk ▸ hb)), fun _ b hb => ⟨⟨_, ho⟩, hblk ▸ hb⟩, hwin.flat hf, fun ds w' ys rs r v' vs d st2 st' hK hw => fin ds w' ys rs r v' vs d st2 st' hK (hw.flat hf)⟩
  · refine ⟨X', Av S B fr, hXv, hXma, ⟨fun b hb => .inl (hown b (by rw [hXv] at hb; exact hblk ▸ hb)), h.laidOwn ho hXm (by rw [hXv, hblk])⟩, fun b hb => ?_, fun h => absurd h hf, hwin, fun ds w' ys rs r v' vs d st2 st' hK hw => fin ds w' ys rs r v' vs d st2 st' hK (hw.weak fun b hb => ?_)⟩
    · rcases hb with hb | ⟨_, hb⟩
      · exact h.lt b hb
      · exact Nat.lt_of_lt_of_le hb (Nat.le_trans h.base.1 h.fr.size)
    · rcases hb with (hb | hb) | hb
      · exact .inl (.inl hb)
      · exact .inr hb
      · exact .inl (.inr hb)
theorem lent_lend (h : Inv B X w0 S ν st tmps w) {eid : TypeId} {fr : Bool} {e : Ty} {xs : List e.I} (ho : st.lent = some ⟨eid, fr, e, xs⟩) {lo n : Nat} {v : Value} (hv : WinVal X.v e.size lo n v) (hln : lo + n ≤ xs.length) :
    LendOk B X w0 S ν st tmps w (.lent lo n) eid e ((xs.drop lo).take n) v := by
  have hw0 := h.win _ ho
  obtain ⟨X', hXv, ⟨hXm, hXa⟩, hblk, hwin, hback⟩ := lend_win hw0 hv hln (fun b hb => .inl (h.lx b hb).1) (fun _ => False) (fun _ h => h.elim)
  have hXm : ∀ c, ¬ X'.more c := fun c hc => by rw [hXm] at hc; exact hc
  have hXma : ∀ c, ¬ X'.more c ∧ ¬ X'.av c := fun c => ⟨hXm c, fun hc => by rw [hXa] at hc; exact hc⟩
  have fin : ∀ (ds : List Deferred) (w' : World) (ys : List e.I) (rs : List RTy) (r : RTys.I rs) (v' : Value) (vs : List Value) (d : Option Tmp) (st2 st' : St), Kept w.heap.size X' w w' → WinRd w' (Av (fun b => S b ∨ b ∈ rowBlocks rs vs) B false) X' ⟨eid, false, e, ys⟩ → RetOf w.heap.size w' rs r v' vs →
      st.back (.lent lo n) e ys = some st2 → (evResult st2 d rs r).run = some st' → ∃ S' ν', Inv B X w0 S' ν' st' (Act.put ⟨tmps, ds⟩ d v').tmps w' := by
    intro ds w' ys rs r v' vs d st2 st' hK hw hret hb hr
    have hlt := hret.2.2.lt
    obtain ⟨hyl, hwin', hout⟩ := hback w' ys (Av (fun b => S b ∨ b ∈ rowBlocks rs vs) B false) (fun b hb hs => by
      rcases hs with (hs | hs) | hs
      · exact .inl hs
      · have := (hlt b hs).1; omega
      · exact .inr hs) hK hw
    simp only [St.back, ho] at hb
    split at hb
    · rename_i ys' hc
      have := cast_same hc
      subst this
      cases hb
      refine behind_lent h (by rw [hXv, hblk]) hXm hK hret (o' := ⟨eid, false, e, splice' xs lo n ys⟩) hwin' (fun b hb => ?_) hr
      obtain ⟨cur, cur', k⟩ := hout b hb
      exact ⟨cur, cur', _, k⟩
    · cases hb
  by_cases hf : e.flat = true
  · refine ⟨X', fun b => v.ownBlock = some b, hXv, hXma, ⟨fun b hb => by rw [hXv] at hb; exact hb, h.laidLent hXm (by rw [hXv, hblk])⟩, fun b hb => h.lt b (h.lx b (hblk ▸ hb)).1, fun _ b hb => show X.v.ownBlock = some b from hblk ▸ hb, hwin.flat hf, fun ds w' ys rs r v' vs d st2 st' hK hw => fin ds w' ys rs r v' vs d st2 st' hK (hw.flat hf)⟩
  · refine ⟨X', Av S B false, hXv, hXma, ⟨fun b hb => .inl (h.lx b (by rw [hXv] at hb; exact hblk ▸ hb)).1, h.laidLent hXm (by rw [hXv, hblk])⟩, fun b hb => ?_, fun h => absurd h hf, hwin, fun ds w' ys rs r v' vs d st2 st' hK hw => fin ds w' ys rs r v' vs d st2 st' hK (hw.weak fun b hb => ?_)⟩
    · rcases hb with hb | ⟨hb, _⟩
      · exact h.lt b hb
      · cases hb
    · rcases hb with (hb | hb) | hb
      · exact .inl (.inl hb)
      · exact .inr hb
      · exact .inl (.inr hb)
theorem nil_lend (h : Inv B X w0 S ν st tmps w) (eid : TypeId) (e : Ty) : LendOk B X w0 S ν st tmps w .nil eid e [] (.slice none 0 0) := by
  refine ⟨Lnt.none, fun _ => False, rfl, (fun _ => ⟨fun h => h, fun h => h⟩), ⟨fun b hb => by simp [Lnt.none, Value.ownBlock] at hb, h.laidIn (fun _ _ _ h => h) fun _ _ _ => by simp [Lnt.none, Value.ownBlock]⟩, fun _ h => h.elim, fun _ _ h => h.elim, ⟨[], by simp, fun j x hj => by simp at hj, .inl ⟨rfl, rfl⟩⟩, fun ds w' ys rs r v' vs d st2 st' hK _ hret hb hr => ?_⟩
  cases hb
  exact behind h hK.below ⟨vs, hret⟩ hr
theorem win_whole {v : Value} {size n : Nat} (h : v = .slice none 0 0 ∧ n = 0 ∨ ∃ b k cap, v = .slice (some ⟨b, k, none⟩) n cap ∧ n ≤ cap) : WinVal v size 0 n v := by
  rcases h with ⟨h, h0⟩ | ⟨b, k, cap, h, hc⟩
  · exact .inl ⟨h, h, h0, rfl⟩
  · exact .inr ⟨b, k, n, cap, k, cap, h, h, hc, by omega, .inl (by omega)⟩
theorem lend_ok (h : Inv B X w0 S ν st tmps w) {s : Slot} {v : Value} (hs : SlotRd B X w S ν st.objs s v) {eid : TypeId} {e : Ty} {g : Lend} {xs : List e.I} (hl : st.lend s eid e = some (g, xs)) : LendOk B X w0 S ν st tmps w g eid e xs v := by
  unfold St.lend at hl
  split at hl
  · cases hl
    have hv : v = .slice none 0 0 := hs
    rw [hv]
    exact nil_lend h eid e
  · rename_i tag
    split at hl
    · rename_i o ho
      split at hl
      · rename_i hid
        have hid := nbeq.1 hid
        split at hl
        · rename_i xs' hc
          obtain ⟨eid', fr, e', xs0⟩ := o
          have he := cast_self hc
          cases he
          have := cast_same hc
          subst this
          cases hl
          have hid : eid' = eid := hid
          subst hid
          obtain ⟨e1, e2⟩ := ref_val h hs ho
          obtain ⟨cs, hown, _⟩ := e2
          have hw := own_lend h ho (lo := 0) (n := xs0.length) (v := v) (by
            rw [e1]
            refine win_whole ?_
            rcases hown.2 with ⟨k1, k2⟩ | ⟨b, cap, cur, k1, _, _, k2, _⟩
            · exact .inl ⟨k1, k2⟩
            · exact .inr ⟨b, 0, cap, k1, k2⟩) (by omega)
          simpa using hw
        · cases hl
      · cases hl
    · cases hl
  · rename_i tag lo f e0 ws
    split at hl
    · rename_i o ho
      split at hl
      · rename_i hid
        simp only [Bool.and_eq_true, decide_eq_true_eq] at hid
        obtain ⟨hid, hee⟩ := hid
        have hid := nbeq.1 hid
        split at hl
        · rename_i xs' hc
          obtain ⟨eid', fr, e', xs0⟩ := o
          have he := cast_self hc
          cases he
          have := cast_same hc
          subst this
          cases hl
          have hid : eid' = eid := hid
          subst hid
          dsimp only at hee
          subst hee
          have hv : Slot1Rd B X w S ν st.objs (.view tag lo f _ ws) v := hs
          obtain ⟨_, _, hwin⟩ := hv
          obtain ⟨cs, hown, _⟩ := h.obj tag _ ho
          have hln : lo + ws.length ≤ xs0.length := by
            rcases hwin with ⟨k1, _, k3, k4⟩ | ⟨b, k, m, cap, k', cap', k1, _, _, k4, _⟩
            · omega
            · rcases hown.2 with ⟨j1, _⟩ | ⟨b', capo, cur, j1, _⟩
              · rw [k1] at j1; cases j1
              · rw [k1] at j1
                injection j1 with j1 j2 j3
                have j2 : m = xs0.length := j2
                omega
          exact own_lend h ho hwin hln
        · cases hl
      · cases hl
    · cases hl
  · split at hl
    · rename_i o ho
      split at hl
      · rename_i hid
        have hid := nbeq.1 hid
        split at hl
        · rename_i xs' hc
          obtain ⟨eid', fr, e', xs0⟩ := o
          have he := cast_self hc
          cases he
          have := cast_same hc
          subst this
          cases hl
          have hid : eid' = eid := hid
          subst hid
          have hv : v = X.v := hs
          obtain ⟨cs, _, _, hw2⟩ := h.win _ ho
          have hw := lent_lend h ho (lo := 0) (n := xs0.length) (v := v) (by
            rw [hv]
            refine win_whole ?_
            rcases hw2 with ⟨k1, k2⟩ | ⟨b, cap, cur, k1, k2, _⟩
            · exact .inl ⟨k1, k2⟩
            · exact .inr ⟨b, X.k, cap, k1, k2⟩) (by omega)
          simpa using hw
        · cases hl
      · cases hl
    · cases hl
  · rename_i lo e0 ws
    split at hl
    · rename_i o ho
      split at hl
      · rename_i hid
        simp only [Bool.and_eq_true, decide_eq_true_eq] at hid
        obtain ⟨hid, hee⟩ := hid
        have hid := nbeq.1 hid
        split at hl
        · rename_i xs' hc
          obtain ⟨eid', fr, e', xs0⟩ := o
          have he := cast_self hc
          cases he
          have := cast_same hc
          subst this
          cases hl
          have hid : eid' = eid := hid
          subst hid
          dsimp only at hee
          subst hee
          have hv : Slot1Rd B X w S ν st.objs (.lview lo _ ws) v := hs
          obtain ⟨_, hwin⟩ := hv
          obtain ⟨cs, _, _, hw2⟩ := h.win _ ho
          have hln : lo + ws.length ≤ xs0.length := by
            rcases hwin with ⟨k1, _, k3, k4⟩ | ⟨b, k, m, cap, k', cap', k1, _, _, k4, _⟩
            · omega
            · rcases hw2 with ⟨j1, _⟩ | ⟨b', capo, cur, j1, _⟩
              · rw [k1] at j1; cases j1
              · rw [k1] at j1
                injection j1 with j1 j2 j3
                have j2 : m = xs0.length := j2
                omega
          exact lent_lend h ho hwin hln
        · cases hl
      · cases hl
    · cases hl
  · cases hl
end Go.Proofs.YtnldcpanpojeiaaGreatDoor
