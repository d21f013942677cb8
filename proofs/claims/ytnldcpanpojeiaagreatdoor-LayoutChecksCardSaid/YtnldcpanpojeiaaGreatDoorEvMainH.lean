/-
  Functions that write to what their first argument, a pointer, leads to: a box that leads to rows.
-/
import Derived.Test.YtnldcpanpojeiaaGreatDoorEvMainP
namespace Go.Proofs.YtnldcpanpojeiaaGreatDoor
open Go.RowKit
variable {P : Program} {G : Ctx} {A : Ann} {L : Nat → Option LoopAnn} {T : FuncId → Option Callee} {B : Nat} {X : Lnt} {w0 w w' : World} {S S' : Nat → Prop} {ν : Nat → Value} {st st' : St} {tmps : Array Value} {ds : List Deferred}
theorem startH_ok {b k m : Nat} {e : Ty} {rv : Nat → Value} {rows : List (Nat × Row)} {hs : List (Nat × TypeId)} (hla : HeldIn w.heap.size (boxLnt b k m rv rows) w) {o : Obj} (hb : S b) (hlt : ∀ b, S b → b < w.heap.size) (hbl : ∀ q ∈ rows, ∀ c, (rv q.1).ownBlock = some c → S c ∧ c ≠ b)
    (hw : WinRd w S (boxLnt b k m rv rows) o) (hr : RowsRd w b k rv hs rows) (hn : (rows.map fun q => q.1).Nodup) {ps : List Ty} {x : Tys.I ps} {args : List Value} (h : ArgsRdS w S ps x args) (n : Nat) :
    ∃ ν, Inv w.heap.size (boxLnt b k m rv rows) w S ν (layRows none hs rows { env := .leptr 0 e [] e :: argSlots ps x ++ List.replicate (n - (ps.length + 1)) .undef, objs := [], lent := some o }) ((⟨.pointer (some ⟨b, k, none⟩) :: args⟩ : Array Value) ++ Array.replicate (n - (⟨.pointer (some ⟨b, k, none⟩) :: args⟩ : Array Value).size) undef) w := by
  have hl := argsS_len h
  have hsz : (⟨.pointer (some ⟨b, k, none⟩) :: args⟩ : Array Value).size = ps.length + 1 := by simp [hl]
  have hX : ∀ b', (boxLnt b k m rv rows).v.ownBlock = some b' → b' = b := fun b' h => by cases h; rfl
  have h0 : Inv w.heap.size (boxLnt b k m rv rows) w S (fun _ => undef) { env := .leptr 0 e [] e :: argSlots ps x ++ List.replicate (n - (ps.length + 1)) .undef, objs := [], lent := some o } ((⟨.pointer (some ⟨b, k, none⟩) :: args⟩ : Array Value) ++ Array.replicate (n - (⟨.pointer (some ⟨b, k, none⟩) :: args⟩ : Array Value).size) undef) w := by
    refine ⟨⟨rfl, rfl, rfl, Nat.le_refl _, fun _ _ _ _ => rfl, fun b' hbb => ?_⟩, ⟨Nat.le_refl _, hla⟩, by simp [argSlots_len, hl]; omega, fun i s hi => ?_, (fun g o ho => by cases ho), (fun g o b ho => by cases ho), hlt, (fun o' ho => by cases ho; exact hw.weak fun b hb => av_false hb), ⟨fun b' hbb => by rw [hX b' hbb]; exact ⟨hb, hlt b hb⟩, fun b' hbb => hbb.elim⟩, (fun c hc => by
      obtain ⟨q, hq, hc⟩ := hc
      obtain ⟨h1, h2⟩ := hbl q hq c hc
      exact ⟨h1, hlt c h1, fun e => h2 (hX c e)⟩), (fun g o b ho => by cases ho), (fun q hq => by cases hq), (fun g h o p b ho => by cases ho)⟩
    · obtain ⟨cs, _, _, hw2⟩ := hw
      rcases hw2 with ⟨e, _⟩ | ⟨b2, cap, cur, e, _, _, hblk, _⟩
      · cases e
      · rw [e] at hbb
        cases hbb
        exact ⟨cur, cur, _, hblk, hblk, rfl, fun _ _ => rfl⟩
    · have hel : (Slot.leptr 0 e [] e :: argSlots ps x).length = ps.length + 1 := by simp [argSlots_len]
      rcases Nat.lt_or_ge i (ps.length + 1) with hi' | hi'
      · rw [List.getElem?_append_left (by rw [hel]; exact hi')] at hi
        cases i with
        | zero =>
          cases hi
          refine ⟨.pointer (some ⟨b, k, none⟩), ?_, ⟨b, 1, 1, rfl, Int.le_refl 0, by rw [offAt_nil]; simp [boxLnt], by cases e <;> rfl⟩⟩
          rw [Array.getElem?_append_left (by omega), ← Array.getElem?_toList]
          rfl
        | succ i =>
          obtain ⟨t, y, v, rfl, h1, h2⟩ := argSlotsS_get h i s hi
          refine ⟨v, ?_, h2.keep (Nat.le_refl _) (fun b _ hb => av_false hb) (fun _ _ _ => rfl)⟩
          rw [Array.getElem?_append_left (by omega), ← Array.getElem?_toList]
          exact h1
      · rw [List.getElem?_append_right (by rw [hel]; exact hi'), hel, List.getElem?_replicate] at hi
        split at hi
        · rename_i hlt
          cases hi
          refine ⟨undef, ?_, trivial⟩
          rw [Array.getElem?_append_right (by omega), Array.getElem?_replicate, if_pos (by omega)]
        · cases hi
  exact rows_lay (bo := none) (b := b) (k0 := k) (hs := hs) (rv := rv) (l := rows) h0 ⟨⟨1, 1, rfl⟩, rfl⟩ hr.cell (fun q hq => ⟨hr.obj q hq, hr.flat q hq⟩) (fun q hq c hc => ⟨(hbl q hq c hc).1, .inr ⟨rfl, q, hq, hc⟩, fun g p hp => by cases hp⟩) hr.apart hn
theorem evFunH_ok (hm : P.follows .mixedOrders = true) (hG : CtxOk P G) (hT : ∀ f fa, T f = some fa → CalleeOk P f fa ∧ (fa.isPlain = false → inList f A.lents = true)) {f : FuncId} {fn : Func} (hf : P.funcs[f]? = some fn) (hname : (fn.name == "runtime.NumGoroutine") = false) {eid : TypeId} {p : Ty} {hs : List (Nat × TypeId)} {ps : List Ty} {rs : List RTy}
    (F : p.I → Tys.I ps → Option (p.I × RTys.I rs)) (hF : ∀ y x, (evFunH G T A L fn eid p hs ps rs y x).run = F y x) (hb : fn.body.isSome = true) : HBoxOk P f ⟨eid, p, hs, ps, rs, F⟩ := by
  cases hc : fn.body with
  | none => rw [hc] at hb; cases hb
  | some c =>
    refine ⟨⟨fn, c, hf, hname, hc⟩, fun y x r hx w S b k rv args hla hXS hlt hbl hw hrows hargs => ?_⟩
    have hx : F y x = some r := hx
    rw [← hF] at hx
    obtain ⟨ν0, hstart⟩ := startH_ok (e := holeT p) hla hXS hlt hbl hw hrows (rows_nodup p y 0) hargs fn.ntmps
    unfold evFunH at hx
    rw [hc] at hx
    dsimp only at hx
    obtain ⟨⟨ex, st'⟩, k1, k2⟩ := run_bind hx
    obtain ⟨⟨st2, y'⟩, k3, k4⟩ := run_bind k2
    refine calls_of_wp hf hc (sim_code (ds := []) hm hG hT c hstart k1 fun S' ν' tmps' w' h' => ?_)
    have fin : (if nodupTags (rowTags G st' rs fn.results.toList) then (match retAll G st' rs fn.results.toList with | some y => (Tr.pure (st', y) : Tr (St × RTys.I rs)) | none => .fail) else .fail).run = some (st2, y') →
        ∃ v, (results fn tmps').run P w' = .ok v w' ∧ ∃ v' vs rv', Ending.returned v = .returned v' ∧ Kept w.heap.size (boxLnt b k (holeT p).size rv (rowsOf p y 0)) w w' ∧ WinRd w' S (boxLnt b k (holeT p).size rv (rowsOf p y 0)) ⟨eid, false, holeT p, [strip p r.1]⟩ ∧ RowsRd w' b k rv' hs (rowsOf p r.1 0) ∧
          (∀ q ∈ rowsOf p r.1 0, ∀ c, (rv' q.1).ownBlock = some c → (∃ q' ∈ rowsOf p y 0, (rv q'.1).ownBlock = some c) ∨ w.heap.size ≤ c) ∧ RetOf w.heap.size w' rs r.2 v' vs := by
      intro hr
      split at hr
      · rename_i hn
        split at hr
        · rename_i y2 hy
          cases hr
          obtain ⟨vs, m1, _, m3, m4⟩ := retAll_ok hG h' (S1 := S') (fun _ h => h) hy
          have hsub : ∀ b, b ∈ rowBlocks rs vs → S' b := fun b hb => by
            obtain ⟨g, o, _, e1, e2⟩ := m3 b hb
            exact h'.own g o b e1 e2
          obtain ⟨vs2, q1, q2, _, _⟩ := retAll_ok hG h' (S1 := fun b => b ∈ rowBlocks rs vs) hsub hy
          have huniq : ∀ (l : List ResultVar) (us vs : List Value), AllRes P tmps' w' l us → AllRes P tmps' w' l vs → us = vs := by
            intro l
            induction l with
            | nil =>
              intro us vs h1 h2
              have h1 : us = [] := h1
              have h2 : vs = [] := h2
              rw [h1, h2]
            | cons r l ih =>
              rintro _ _ ⟨v, us, rfl, a1, a2⟩ ⟨v', us', rfl, b1, b2⟩
              have a1 : (resSem tmps' r).run P w' = .ok v w' := a1
              have b1 : (resSem tmps' r).run P w' = .ok v' w' := b1
              rw [a1] at b1
              injection b1 with b1
              rw [b1, ih _ _ a2 b2]
          have := huniq _ _ _ q1 m1
          subst this
          have hlen : vs2.length = rs.length := q2.len
          dsimp only at k4
          split at k4
          · rename_i o ho
            split at k4
            · rename_i z hz
              split at k4
              · rename_i hnt
                cases k4
                obtain ⟨e1, e2, e3, _⟩ := boxFull_spec hz
                have hwin := h'.win o ho
                have hwin' : WinRd w' (Av S' w.heap.size false) (boxLnt b k (holeT p).size rv (rowsOf p y 0)) ⟨o.eid, o.fr, holeT p, [strip p z]⟩ := by
                  obtain ⟨eid', fr', e', xs'⟩ := o
                  dsimp only at e1 e3
                  subst e1
                  have := cast_same e3
                  subst this
                  exact hwin
                have hbx : BoxAt (boxLnt b k (holeT p).size rv (rowsOf p y 0)) ν' st'.objs none b k := ⟨⟨1, 1, rfl⟩, rfl⟩
                refine ⟨_, res_run m1, _, vs2, rowsV ν' st' none, rfl, h'.fr, (win_eid h'.fr hw hwin').flat e2, rows_given h' hbx hz (nodup_tagsB hnt), fun q hq c hc => ?_, ?_, m4 (nodup_tags hn), q2⟩
                · obtain ⟨g, r', n1, n2, n3, _⟩ := rows_blocks h' hbx hz hq hc
                  rcases h'.nw g r' c n2 n3 with e | ⟨_, e⟩
                  · exact .inr e
                  · exact .inl e
                · match rs, vs2, hlen with
                  | [], [], _ => rfl
                  | [_], [_], _ => rfl
                  | _ :: _ :: _, _ :: _ :: _, _ => rfl
              · cases k4
            · cases k4
          · cases k4
        · cases hr
      · cases hr
    cases ex with
    | normal =>
      obtain ⟨v, h1, u, vs, rv', h2, h3⟩ := fin k3
      exact ⟨rfl, v, h1, u, vs, rv', h2, h3⟩
    | ret =>
      obtain ⟨v, h1, u, vs, rv', h2, h3⟩ := fin k3
      exact ⟨rfl, v, h1, u, vs, rv', h2, h3⟩
    | exit i => cases k3
end Go.Proofs.YtnldcpanpojeiaaGreatDoor
