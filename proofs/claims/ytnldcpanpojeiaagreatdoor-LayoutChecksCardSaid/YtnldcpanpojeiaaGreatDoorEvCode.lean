/-
  Regions, code, loops, functions: whatever the reading of a function says, its calls do.
-/
import Derived.Test.YtnldcpanpojeiaaGreatDoorEvRune
import Derived.Test.YtnldcpanpojeiaaGreatDoorEvBoxW
namespace Go.Proofs.YtnldcpanpojeiaaGreatDoor
open Go.RowKit
variable {P : Program} {Λ : List Nat} {G : Ctx} {A : Ann} {L : Nat → Option LoopAnn} {T : FuncId → Option Callee} {B : Nat} {X : Lnt} {w0 w w' : World} {S S' : Nat → Prop} {ν : Nat → Value} {st st' : St} {tmps : Array Value} {ds : List Deferred}
theorem inList_mem {n : Nat} : ∀ {l : List Nat}, inList n l = true ↔ n ∈ l
  | [] => by simp [inList]
  | k :: r => by
    unfold inList
    by_cases h : k = n
    · rw [if_pos (nbeq.2 h)]; simp [h]
    · rw [if_neg (by rw [nbeq]; exact h), inList_mem]
      simp only [List.mem_cons]
      exact ⟨.inr, fun h' => h'.resolve_left fun e => h e.symm⟩
theorem nodup_tags : ∀ {l : List Nat}, nodupTags l = true → l.Nodup
  | [], _ => List.nodup_nil
  | k :: r, h => by
    unfold nodupTags at h
    simp only [Bool.and_eq_true, Bool.not_eq_true'] at h
    refine List.nodup_cons.2 ⟨fun hm => ?_, nodup_tags h.2⟩
    have := inList_mem.2 hm
    rw [h.1] at this
    cases this
theorem lay_rec (h0 : Inv B X w0 S ν st tmps w) : ∀ {l : List Item} {x : Items.I l} {ν1 : Nat → Value} {st1 : St} {used : List Nat} {tags : List (Nat × TagAt)},
    Laid B X w0 S ν st tmps w ν1 st1 used tags → takeItems l st = some x → okItems tags l = true → (ownTags st l).Nodup → (∀ g ∈ ownTags st l, g ∉ used) → ∃ ν2, Inv B X w0 S ν2 (layItems l x st1) tmps w
  | [], _, ν1, st1, used, tags, h, _, _, _, _ => ⟨ν1, h.inv⟩
  | [.sv i fr t], x, ν1, st1, used, tags, h, hx, _, _, _ => ⟨ν1, (h.set (i := i) (s := .val fr t x) (slotVal_ok h0 hx)).inv⟩
  | [.srow i tag eid fr e], x, ν1, st1, used, tags, h, hx, hk, hn, hu => by
    simp only [okItems, Bool.and_true] at hk
    have hnone : olook tag tags = none := by
      split at hk
      · assumption
      · cases hk
    exact ⟨_, (h.row h0 (i := i) (tag := tag) (eid := eid) (fr := fr) (e := e) (xs := x) hx hnone (fun g hg => hu g (by simp [ownTags, hg]))).inv⟩
  | [.sbox i tag eid fr t], x, ν1, st1, used, tags, h, hx, hk, hn, hu => by
    simp only [okItems, Bool.and_true] at hk
    have hnone : olook tag tags = none := by
      split at hk
      · assumption
      · cases hk
    obtain ⟨v, hv⟩ := h.box h0 (i := i) (tag := tag) (eid := eid) (fr := fr) (t := t) (x := x) hx hnone (fun g a b c d hg => hu g (by simp [ownTags, hg]))
    exact ⟨_, hv.inv⟩
  | [.slrow i eid e], x, ν1, st1, used, tags, h, hx, _, _, _ => ⟨ν1, (h.lrow h0 hx).inv⟩
  | [.slbox i eid t], x, ν1, st1, used, tags, h, hx, _, _, _ => ⟨ν1, (h.lbox h0 hx).inv⟩
  | [.sboxh i tag eid p hs als], x, ν1, st1, used, tags, h, hx, hk, hn, hu => by
    simp only [okItems, Bool.and_true, Bool.and_eq_true] at hk
    have hnone : olook tag tags = none := by
      have := hk.1
      split at this
      · assumption
      · cases this
    have hn' : ((match st.get i with | .eptr g _ _ _ _ => g :: rowTagsOf st (some g) (holesOf p 0) | _ => []) ++ ([] : List Nat)).Nodup := hn
    have hu' : ∀ g ∈ (match st.get i with | .eptr g _ _ _ _ => g :: rowTagsOf st (some g) (holesOf p 0) | _ => []) ++ ([] : List Nat), g ∉ used := hu
    obtain ⟨ν2, used2, _, h2⟩ := h.boxh h0 (i := i) (tag := tag) (eid := eid) (p := p) (hs := hs) (als := als) (x := x) hx hnone hk.2 (List.nodup_append.1 hn').1 (fun g hg => hu' g (List.mem_append.2 (.inl hg)))
    exact ⟨_, h2.inv⟩
  | [.slboxh i eid p hs], x, ν1, st1, used, tags, h, hx, hk, hn, hu => by
    simp only [okItems, Bool.and_true] at hk
    have hn' : (rowTagsOf st none (holesOf p 0) ++ ([] : List Nat)).Nodup := hn
    have hu' : ∀ g ∈ rowTagsOf st none (holesOf p 0) ++ ([] : List Nat), g ∉ used := hu
    obtain ⟨ν2, used2, _, h2⟩ := h.lboxh h0 (i := i) (eid := eid) (p := p) (hs := hs) (x := x) hx hk (List.nodup_append.1 hn').1 (fun g hg => hu' g (List.mem_append.2 (.inl hg)))
    exact ⟨_, h2.inv⟩
  | .sboxh i tag eid p hs als :: a :: r, x, ν1, st1, used, tags, h, hx, hk, hn, hu => by
    unfold takeItems at hx
    split at hx
    · rename_i y z hy hz
      cases hx
      simp only [okItems, Bool.and_eq_true] at hk
      have hnone : olook tag tags = none := by
        have := hk.1.1
        split at this
        · assumption
        · cases this
      have hn' : ((match st.get i with | .eptr g _ _ _ _ => g :: rowTagsOf st (some g) (holesOf p 0) | _ => []) ++ ownTags st (a :: r)).Nodup := hn
      have hu' : ∀ g ∈ (match st.get i with | .eptr g _ _ _ _ => g :: rowTagsOf st (some g) (holesOf p 0) | _ => []) ++ ownTags st (a :: r), g ∉ used := hu
      obtain ⟨ν2, used2, hus, h2⟩ := h.boxh h0 (i := i) (tag := tag) (eid := eid) (p := p) (hs := hs) (als := als) (x := y) hy hnone hk.1.2 (List.nodup_append.1 hn').1 (fun g hg => hu' g (List.mem_append.2 (.inl hg)))
      refine lay_rec h0 (l := a :: r) h2 hz hk.2 (List.nodup_append.1 hn').2.1 (fun g hg hgu => ?_)
      rcases hus g hgu with hgu | hgu
      · exact hu' g (List.mem_append.2 (.inr hg)) hgu
      · exact (List.nodup_append.1 hn').2.2 g hgu g hg rfl
    · cases hx
  | .slboxh i eid p hs :: a :: r, x, ν1, st1, used, tags, h, hx, hk, hn, hu => by
    unfold takeItems at hx
    split at hx
    · rename_i y z hy hz
      cases hx
      simp only [okItems, Bool.and_eq_true] at hk
      have hn' : (rowTagsOf st none (holesOf p 0) ++ ownTags st (a :: r)).Nodup := hn
      have hu' : ∀ g ∈ rowTagsOf st none (holesOf p 0) ++ ownTags st (a :: r), g ∉ used := hu
      obtain ⟨ν2, used2, hus, h2⟩ := h.lboxh h0 (i := i) (eid := eid) (p := p) (hs := hs) (x := y) hy hk.1 (List.nodup_append.1 hn').1 (fun g hg => hu' g (List.mem_append.2 (.inl hg)))
      refine lay_rec h0 (l := a :: r) h2 hz hk.2 (List.nodup_append.1 hn').2.1 (fun g hg hgu => ?_)
      rcases hus g hgu with hgu | hgu
      · exact hu' g (List.mem_append.2 (.inr hg)) hgu
      · exact (List.nodup_append.1 hn').2.2 g hgu g hg rfl
    · cases hx
  | .slrow i eid e :: a :: r, x, ν1, st1, used, tags, h, hx, hk, hn, hu => by
    unfold takeItems at hx
    split at hx
    · rename_i y z hy hz
      cases hx
      exact lay_rec h0 (l := a :: r) (h.lrow h0 hy) hz hk hn hu
    · cases hx
  | .slbox i eid t :: a :: r, x, ν1, st1, used, tags, h, hx, hk, hn, hu => by
    unfold takeItems at hx
    split at hx
    · rename_i y z hy hz
      cases hx
      exact lay_rec h0 (l := a :: r) (h.lbox h0 hy) hz hk hn hu
    · cases hx
  | .slref j :: r, x, ν1, st1, used, tags, h, hx, hk, hn, hu => by
    have hx' : (if isLref st j then takeItems r st else none) = some x := by
      cases r <;> exact hx
    split at hx'
    · rename_i hs
      have := lay_rec h0 (l := r) (h.lref h0 hs) hx' hk hn hu
      cases r <;> exact this
    · cases hx'
  | .slptr j t :: r, x, ν1, st1, used, tags, h, hx, hk, hn, hu => by
    have hx' : (if isLptr st j t then takeItems r st else none) = some x := by
      cases r <;> exact hx
    split at hx'
    · rename_i hs
      have := lay_rec h0 (l := r) (h.lptr h0 hs) hx' hk hn hu
      cases r <;> exact this
    · cases hx'
  | .sv i fr t :: a :: r, x, ν1, st1, used, tags, h, hx, hk, hn, hu => by
    unfold takeItems at hx
    split at hx
    · rename_i y z hy hz
      cases hx
      exact lay_rec h0 (l := a :: r) (h.set (i := i) (s := .val fr t y) (slotVal_ok h0 hy)) hz hk hn hu
    · cases hx
  | .srow i tag eid fr e :: a :: r, x, ν1, st1, used, tags, h, hx, hk, hn, hu => by
    unfold takeItems at hx
    split at hx
    · rename_i y z hy hz
      cases hx
      simp only [okItems, Bool.and_eq_true] at hk
      have hnone : olook tag tags = none := by
        have := hk.1
        split at this
        · assumption
        · cases this
      have h2 := h.row h0 (i := i) (tag := tag) (eid := eid) (fr := fr) (e := e) (xs := y) hy hnone (fun g hg => hu g (by simp [ownTags, hg]))
      have hn' : ((match st.get i with | .ref g => [g] | _ => []) ++ ownTags st (a :: r)).Nodup := hn
      refine lay_rec h0 (l := a :: r) h2 hz hk.2 (List.nodup_append.1 hn').2.1 (fun g hg hgu => ?_)
      rcases List.mem_append.1 hgu with hgu | hgu
      · exact (List.nodup_append.1 hn').2.2 g hgu g hg rfl
      · exact hu g (List.mem_append.2 (.inr hg)) hgu
    · cases hx
  | .sbox i tag eid fr t :: a :: r, x, ν1, st1, used, tags, h, hx, hk, hn, hu => by
    unfold takeItems at hx
    split at hx
    · rename_i y z hy hz
      cases hx
      simp only [okItems, Bool.and_eq_true] at hk
      have hnone : olook tag tags = none := by
        have := hk.1
        split at this
        · assumption
        · cases this
      obtain ⟨v, h2⟩ := h.box h0 (i := i) (tag := tag) (eid := eid) (fr := fr) (t := t) (x := y) hy hnone (fun g a b c d hg => hu g (by simp [ownTags, hg]))
      have hn' : ((match st.get i with | .eptr g _ _ _ _ => [g] | _ => []) ++ ownTags st (a :: r)).Nodup := hn
      refine lay_rec h0 (l := a :: r) h2 hz hk.2 (List.nodup_append.1 hn').2.1 (fun g hg hgu => ?_)
      rcases List.mem_append.1 hgu with hgu | hgu
      · exact (List.nodup_append.1 hn').2.2 g hgu g hg rfl
      · exact hu g (List.mem_append.2 (.inr hg)) hgu
    · cases hx
  | .sref j i g :: r, x, ν1, st1, used, tags, h, hx, hk, hn, hu => by
    have hx' : (if sameRef st j i then takeItems r st else none) = some x := by
      cases r <;> exact hx
    split at hx'
    · rename_i hs
      simp only [okItems, Bool.and_eq_true] at hk
      have hk1 := hk.1
      split at hk1
      · rename_i k hlook
        simp only [Bool.and_eq_true, Bool.not_eq_true'] at hk1
        have hi := nbeq.1 hk1.1
        obtain ⟨p, k1, k2, k3⟩ := h.tags g k hlook
        rcases k3 with ⟨_, e2, _⟩ | ⟨e1, _⟩
        · rw [hi] at e2
          have h2 := h.set (i := j) (s := .ref g) (by rw [same_ref h0 hs]; exact ⟨e2, p, k1⟩)
          have := lay_rec h0 (l := r) h2 hx' hk.2 hn hu
          cases r <;> exact this
        · rw [hk1.2] at e1; cases e1
      · cases hk1
    · cases hx'
  | .sptr j i g t :: r, x, ν1, st1, used, tags, h, hx, hk, hn, hu => by
    have hx' : (if sameRef st j i then takeItems r st else none) = some x := by
      cases r <;> exact hx
    split at hx'
    · rename_i hs
      simp only [okItems, Bool.and_eq_true] at hk
      have hk1 := hk.1
      split at hk1
      · rename_i k hlook
        simp only [Bool.and_eq_true, decide_eq_true_eq] at hk1
        have hi := nbeq.1 hk1.1.1
        obtain ⟨p, k1, k2, k3⟩ := h.tags g k hlook
        rcases k3 with ⟨e1, _⟩ | ⟨_, ⟨b, n, cap, el, e2, e3, e4⟩, _⟩
        · rw [hk1.1.2] at e1; cases e1
        · rw [hi] at e3
          have h2 := h.set (i := j) (s := .eptr g 0 [] t none) (by
            rw [same_ref h0 hs, e3]
            exact ⟨p, b, n, cap, el, k1, e2, Int.le_refl _, by rw [offAt_nil]; simp, by rw [e4]; rfl, by rw [tyAt_nil, k2, hk1.2], fun z hz => by cases hz⟩)
          have := lay_rec h0 (l := r) h2 hx' hk.2 hn hu
          cases r <;> exact this
      · cases hk1
    · cases hx'
  | .slit i b :: r, x, ν1, st1, used, tags, h, hx, hk, hn, hu => by
    have hx' : (if isLit st i b then takeItems r st else none) = some x := by
      cases r <;> exact hx
    split at hx'
    · rename_i hs
      have h2 := h.set (i := i) (s := .lit b) (by
        obtain ⟨v, hv, hr⟩ := h0.get i
        rw [hv]
        unfold isLit at hs
        split at hs
        · rename_i c hc
          rw [hc] at hr
          have : b = c := by simpa using hs
          subst this
          exact hr
        · cases hs)
      have := lay_rec h0 (l := r) h2 hx' hk hn hu
      cases r <;> exact this
    · cases hx'
  | .snil i :: r, x, ν1, st1, used, tags, h, hx, hk, hn, hu => by
    have hx' : (if isNil st i then takeItems r st else none) = some x := by
      cases r <;> exact hx
    split at hx'
    · rename_i hs
      have h2 := h.set (i := i) (s := .nil) (by
        obtain ⟨v, hv, hr⟩ := h0.get i
        rw [hv]
        unfold isNil at hs
        split at hs
        · rename_i hc
          rw [hc] at hr
          exact hr
        · cases hs)
      have := lay_rec h0 (l := r) h2 hx' hk hn hu
      cases r <;> exact this
    · cases hx'
theorem lay_ok (h : Inv B X w0 S ν st tmps w) {l : List Item} {n : Nat} {x : Items.I l} (hx : takeAll l n st = some x) : ∃ ν', Inv B X w0 S ν' (layItems l x (St.clear n)) tmps w := by
  unfold takeAll at hx
  split at hx
  · rename_i hc
    simp only [Bool.and_eq_true] at hc
    have hn := nbeq.1 hc.1.1
    have hclear : Inv B X w0 S ν (St.clear n) tmps w := by
      refine ⟨h.fr, h.base, by rw [← h.len, hn]; simp [St.clear], fun i s hi => ?_, (fun g o ho => by cases ho), (fun g o b ho => by cases ho), h.lt, (fun o ho => by cases ho), h.lx2, h.lm, (fun g o b ho => by cases ho), (fun q hq => by cases hq), (fun g h o p b ho => by cases ho)⟩
      simp only [St.clear] at hi
      rw [List.getElem?_replicate] at hi
      split at hi
      · rename_i hlt
        cases hi
        have : i < tmps.size := by rw [← h.len, hn]; exact hlt
        exact ⟨_, Array.getElem?_eq_getElem this, trivial⟩
      · cases hi
    exact lay_rec h (used := []) (tags := []) ⟨hclear, fun g p b hp => (by cases hp), fun g k hk => (by cases hk)⟩ hx hc.2 (nodup_tags hc.1.2) (fun g _ (hg : g ∈ []) => by cases hg)
  · cases hx
theorem evPick_ok (h : Inv B X w0 S ν st tmps w) {o : Oper} {c a b : Operand} (ho : o.op = .pick c a b) (hr : (evOp G T A o st).run = some st') : AllOk P B X w0 S ν o tmps ds w st' := by
  have key : ∀ {x : Bool} {s : Slot} {y : Operand}, (⟨tmps, ds⟩ : Act).eval c = .bool x → y = (if x then a else b) → st.opd y = some s → AllOk P B X w0 S ν o tmps ds w (st.put o.dst s) := by
    intro x s y hc hy hs
    refine all_put h (v := (⟨tmps, ds⟩ : Act).eval y) (fun w' => ?_) (opd_ok (ds := ds) h hs)
    simp only [execOp, ho, hc]
    subst hy
    cases x <;> simp [asBool]
  unfold evOp at hr
  rw [ho] at hr
  dsimp only at hr
  split at hr
  · rename_i s hc hs
    cases hr
    exact key (x := true) (opd_ok (ds := ds) h hc) rfl hs
  · rename_i s hc hs
    cases hr
    exact key (x := false) (opd_ok (ds := ds) h hc) rfl hs
  · rename_i f x s u hc hs hu
    have hcv := val_bool (opd_ok (ds := ds) h hc)
    rcases run_br hr with ⟨rfl, hr⟩ | ⟨rfl, hr⟩
    · cases hr; exact key (x := true) hcv rfl hs
    · cases hr; exact key (x := false) hcv rfl hu
  · cases hr
theorem evNil_ok (h : Inv B X w0 S ν st tmps w) {o : Oper} {x : Operand} (ho : o.op = .nilCheck x) (hr : (evOp G T A o st).run = some st') : AllOk P B X w0 S ν o tmps ds w st' := by
  unfold evOp at hr
  rw [ho] at hr
  dsimp only at hr
  split at hr
  · rename_i t i p u s hx
    cases hr
    have hs := opd_ok (ds := ds) h hx
    refine all_put h (v := (⟨tmps, ds⟩ : Act).eval x) (fun w' => ?_) hs
    obtain ⟨_, _, _, _, _, _, _, _, e, _⟩ := hs
    simp [execOp, ho, e]
  · rename_i fr t y hx
    cases hr
    have hs := opd_ok (ds := ds) h hx
    refine all_put h (v := (⟨tmps, ds⟩ : Act).eval x) (fun w' => ?_) hs
    obtain ⟨_, e, _⟩ := hs
    simp [execOp, ho, e]
  · rename_i i e p t hx
    cases hr
    have hs := opd_ok (ds := ds) h hx
    refine all_put h (v := (⟨tmps, ds⟩ : Act).eval x) (fun w' => ?_) hs
    obtain ⟨_, _, _, _, _, e, _⟩ := hs
    simp [execOp, ho, e]
  · rename_i fr t y hx
    cases hr
    have hs : RdV w (Av S B fr) (.ptr t) y _ := opd_ok (ds := ds) h hx
    obtain ⟨cs, h1, h2⟩ := hs
    unfold Rd at h1
    obtain ⟨ad, h3, h4, h5, h6⟩ := h1
    have e : (⟨tmps, ds⟩ : Act).eval x = .pointer (some ad) := by rw [h2, h3]; rfl
    exact all_put h (v := (⟨tmps, ds⟩ : Act).eval x) (fun w' => by simp [execOp, ho, e]) (show SlotRd B X w S ν st.objs (.cptr fr t y) _ from ⟨ad, e, h4, h5, h6⟩)
  · cases hr
theorem evOp_all (hG : CtxOk P G) (h : Inv B X w0 S ν st tmps w) {o : Oper} (hq : quietOp o.op = true) (hl : ∀ t a, o.op ≠ .load t a) (hcv : ∀ t t' x, o.op ≠ .convert t t' x) (hr : (evOp G T A o st).run = some st') : AllOk P B X w0 S ν o tmps ds w st' := by
  cases ho : o.op with
  | move x =>
    unfold evOp at hr
    rw [ho] at hr
    dsimp only at hr
    split at hr
    · rename_i s hs; cases hr; exact evMove_ok h (.inl ho) hs
    · cases hr
  | assign x =>
    unfold evOp at hr
    rw [ho] at hr
    dsimp only at hr
    split at hr
    · rename_i s hs; cases hr; exact evMove_ok h (.inr ho) hs
    · cases hr
  | pick c a b => exact evPick_ok h ho hr
  | binOp op t x y t' =>
    unfold evOp at hr
    rw [ho] at hr
    exact evBin_ok hG h ho hr
  | unOp op t x =>
    unfold evOp at hr
    rw [ho] at hr
    exact evUn_ok h ho hr
  | convert t t' x => exact absurd ho (hcv t t' x)
  | index t x i =>
    unfold evOp at hr
    rw [ho] at hr
    exact evIndex_ok hG h ho hr
  | makeInterface t x =>
    unfold evOp at hr
    rw [ho] at hr
    exact evMakeI_ok hG h ho hr
  | indexAddr t x i =>
    unfold evOp at hr
    rw [ho] at hr
    dsimp only at hr
    split at hr
    · exact evIndexAddrA_ok hG h ho hr
    · exact evIndexAddr_ok hG h ho hr
  | load t a => exact absurd ho (hl t a)
  | fieldAddr t x f =>
    unfold evOp at hr
    rw [ho] at hr
    exact evField_ok hG h ho hr
  | field t x f =>
    unfold evOp at hr
    rw [ho] at hr
    exact evPart_ok hG h ho hr
  | nilCheck x => exact evNil_ok h ho hr
  | extract x i =>
    cases x with
    | tmp t =>
      unfold evOp at hr
      rw [ho] at hr
      dsimp only at hr
      split at hr
      · rename_i ss hss
        split at hr
        · rename_i s hs
          split at hr
          · cases hr
          · rename_i hn
            cases hr
            exact evExtract_ok h ho hss hs hn
        · cases hr
      · cases hr
    | _ =>
      unfold evOp at hr
      rw [ho] at hr
      cases hr
  | call c =>
    obtain ⟨callee, args, ats⟩ := c
    cases callee with
    | builtin b =>
      obtain ⟨args⟩ := args
      obtain ⟨ats⟩ := ats
      cases b with
      | len =>
        unfold evOp at hr
        rw [ho] at hr
        match args, ats, hr, ho with
        | [x], [t], hr, ho => exact evLen_ok hG h ho hr
        | [], _, hr, _ => cases hr
        | [_], [], hr, _ => cases hr
        | [_], _ :: _ :: _, hr, _ => cases hr
        | _ :: _ :: _, _, hr, _ => cases hr
      | max =>
        unfold evOp at hr
        rw [ho] at hr
        match args, hr, ho with
        | [x, y], hr, ho => exact evMinMax_ok (b := true) h ho hr
        | [x, y, z], hr, ho => exact evMinMax3_ok (b := true) h ho hr
        | [], hr, _ => cases hr
        | [_], hr, _ => cases hr
        | _ :: _ :: _ :: _ :: _, hr, _ => cases hr
      | min =>
        unfold evOp at hr
        rw [ho] at hr
        match args, hr, ho with
        | [x, y], hr, ho => exact evMinMax_ok (b := false) h ho hr
        | [x, y, z], hr, ho => exact evMinMax3_ok (b := false) h ho hr
        | [], hr, _ => cases hr
        | [_], hr, _ => cases hr
        | _ :: _ :: _ :: _ :: _, hr, _ => cases hr
      | _ => rw [ho] at hq; cases hq
    | _ => rw [ho] at hq; cases hq
  | _ => rw [ho] at hq; cases hq
theorem evOp_pure (hG : CtxOk P G) (h : Inv B X w0 S ν st tmps w) {o : Oper} (hq : quietOp o.op = true) (hr : (evOp G T A o st).run = some st') : PureOk P B X w0 S ν o tmps ds w st' := by
  by_cases hl : ∃ t a, o.op = .load t a
  · obtain ⟨t, a, ho⟩ := hl
    unfold evOp at hr
    rw [ho] at hr
    dsimp only at hr
    split at hr
    · exact evLoadW_ok hG h ho hr
    · exact evLoad_ok hG h ho hr
  · by_cases hc : ∃ t t' x, o.op = .convert t t' x
    · obtain ⟨t, t', x, ho⟩ := hc
      unfold evOp at hr
      rw [ho] at hr
      dsimp only at hr
      have hnr : ¬ inList t' runeTs = true := by
        unfold quietOp at hq
        rw [ho] at hq
        simpa using hq
      rw [if_neg hnr] at hr
      unfold evConv at hr
      split at hr
      · rename_i i hi hd
        split at hr
        · exact evConvS_ok h (hG.sl _ _ hi) (hG.ty _ _ hd) ho hr
        · exact evConvR_ok h (hG.sl _ _ hi) (hG.ty _ _ hd) ho hr
      · exact (evConvert_ok hG h ho hr).ok
    · exact (evOp_all hG h hq (fun t a e => hl ⟨t, a, e⟩) (fun t t' x e => hc ⟨t, t', x, e⟩) hr).ok
theorem evOp_ok (hG : CtxOk P G) (hT : ∀ f fa, T f = some fa → CalleeOk P f fa) (hΛ : ∀ f fa, T f = some fa → fa.isPlain = false → inList f Λ = true) (h : Inv B X w0 S ν st tmps w) {o : Oper} (hr : (evOp G T A o st).run = some st') : OpOk P Λ B X w0 o tmps ds w st' := by
  by_cases hq : quietOp o.op = true
  · exact (evOp_pure hG h hq hr).mem.op
  · cases ho : o.op with
    | store t a v =>
      unfold evOp at hr
      rw [ho] at hr
      exact (evStore_ok hG h ho hr).op
    | build t parts =>
      unfold evOp at hr
      rw [ho] at hr
      dsimp only at hr
      split at hr
      · exact (evBuildH_ok hG h ho hr).op
      · exact (evBuild_ok hG h ho hr).op
    | buildSlice t n parts =>
      unfold evOp at hr
      rw [ho] at hr
      exact (evBuildSlice_ok hG h ho hr).op
    | convert t t' x =>
      have hin : inList t' runeTs = true := by
        unfold quietOp at hq
        rw [ho] at hq
        simpa using hq
      unfold evOp at hr
      rw [ho] at hr
      dsimp only at hr
      rw [if_pos hin] at hr
      split at hr
      · rename_i htt
        exact (evMarks_ok hG h ho htt hr).op
      · exact (evRunes_ok hG h ho hr).op
    | makeSlice t n c =>
      unfold evOp at hr
      rw [ho] at hr
      exact (evMake_ok hG h ho hr).op
    | slice t x lo hi mx =>
      unfold evOp at hr
      rw [ho] at hr
      exact (evSlice_ok hG h ho hr).op
    | box t x =>
      unfold evOp at hr
      rw [ho] at hr
      dsimp only at hr
      split at hr
      · exact (evBoxH_ok hG h ho hr).op
      · exact (evBox_ok hG h (x := some x) ho hr).op
    | alloc t =>
      unfold evOp at hr
      rw [ho] at hr
      exact (evBox_ok hG h (x := none) ho hr).op
    | makeFunc fn first caps =>
      unfold evOp at hr
      rw [ho] at hr
      exact (evMakeFunc_ok h ho hr).op
    | call c =>
      obtain ⟨callee, args, ats⟩ := c
      cases callee with
      | builtin b =>
        obtain ⟨args⟩ := args
        obtain ⟨ats⟩ := ats
        cases b with
        | append =>
          unfold evOp at hr
          rw [ho] at hr
          match args, ats, hr, ho with
          | [s, x], [t, t'], hr, ho =>
            dsimp only at hr
            split at hr
            · rename_i e
              have e := nbeq.1 e
              subst e
              exact (evAppend_ok hG h ho hr).op
            · cases hr
          | [], _, hr, _ => cases hr
          | [_], _, hr, _ => cases hr
          | _ :: _ :: _ :: _, _, hr, _ => cases hr
          | [_, _], [], hr, _ => cases hr
          | [_, _], [_], hr, _ => cases hr
          | [_, _], _ :: _ :: _ :: _, hr, _ => cases hr
        | copy =>
          unfold evOp at hr
          rw [ho] at hr
          match args, ats, hr, ho with
          | [x, y], [t, t'], hr, ho => exact (evCopy_ok hG h ho hr).op
          | [], _, hr, _ => cases hr
          | [_], _, hr, _ => cases hr
          | _ :: _ :: _ :: _, _, hr, _ => cases hr
          | [_, _], [], hr, _ => cases hr
          | [_, _], [_], hr, _ => cases hr
          | [_, _], _ :: _ :: _ :: _, hr, _ => cases hr
        | len => rw [ho] at hq; exact absurd rfl hq
        | max => rw [ho] at hq; exact absurd rfl hq
        | min => rw [ho] at hq; exact absurd rfl hq
        | _ => unfold evOp at hr; rw [ho] at hr; cases hr
      | value f =>
        obtain ⟨args⟩ := args
        cases f with
        | func f =>
          unfold evOp at hr
          rw [ho] at hr
          exact evCall_ok hT h ho (fun fa hfa hp => by simp [growOp, ho, hΛ f fa hfa hp]) hr
        | _ => unfold evOp at hr; rw [ho] at hr; exact evCallV_ok hT h ho hr
      | invoke r m => unfold evOp at hr; rw [ho] at hr; cases hr
    | _ => first | (unfold evOp at hr; rw [ho] at hr; cases hr; done) | (rw [ho] at hq; exact absurd rfl hq)
end Go.Proofs.YtnldcpanpojeiaaGreatDoor
