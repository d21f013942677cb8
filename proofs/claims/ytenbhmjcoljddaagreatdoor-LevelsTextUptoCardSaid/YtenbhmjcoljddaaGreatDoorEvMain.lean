import Derived.Test.YtenbhmjcoljddaaGreatDoorEvDraw
namespace Go.Proofs.YtenbhmjcoljddaaGreatDoor
open Go.RowKit
variable {P : Program} {Λ : List Nat} {G : Ctx} {A : Ann} {L : Nat → Option LoopAnn} {T : FuncId → Option Callee} {B : Nat} {X : Lnt} {w0 w w' : World} {S S' : Nat → Prop} {ν : Nat → Value} {st st' : St} {tmps : Array Value} {ds : List Deferred}
theorem withBool_ok {α : Type} (h : Inv B X w0 S ν st tmps w) {d : Nat} {k : Bool → St → Tr α} {x : α} (hr : (withBool st d k).run = some x) : ∃ b st1, tmps[d]? = some (.bool b) ∧ Inv B X w0 S ν st1 tmps w ∧ (k b st1).run = some x := by
 have key : ∀ {s : Slot} {b : Bool}, st.get d = s → (∀ v, SlotRd B X w S ν st.objs s v → v = .bool b) → s ≠ .undef → tmps[d]? = some (.bool b) := by
  intro s b hg hv hn
  unfold St.get at hg
  split at hg
  ·rename_i u hu
   subst hg
   obtain ⟨v, h1, h2⟩ := h.slot d u hu
   rw [h1, hv v h2]
  ·exact absurd hg.symm hn
 unfold withBool at hr
 split at hr
 ·rename_i b hg
  exact ⟨b, st, key hg (fun v hv => hv) (by simp), h, hr⟩
 ·rename_i f c hg
  have hk := h.know hg
  have hb := key hg (fun v hv => val_bool hv) (by simp)
  rcases run_br hr with ⟨rfl, hr⟩ | ⟨rfl, hr⟩
  ·exact ⟨true, _, hb, hk, hr⟩
  ·exact ⟨false, _, hb, hk, hr⟩
 ·cases hr
theorem skip_ok (h : Inv B X w0 S ν st tmps w) {all : List Oper} {j d : Nat} (hd : dstOf all j = some d) (hs : (st.get d).isSkip = true) : yielded all.toArray tmps j = none := by
 have hv : tmps[d]? = some undef := by
  unfold St.get at hs
  split at hs
  ·rename_i u hu
   obtain ⟨v, h1, h2⟩ := h.slot d u hu
   cases u <;> simp only [Slot.isSkip] at hs <;> first | contradiction | skip
   rw [h1, show v = undef from h2]
  ·cases hs
 unfold dstOf at hd
 split at hd
 ·rename_i o ho
  unfold yielded
  simp [ho, hd, hv, undef]
 ·cases hd
theorem yielded_ok {all : List Oper} {j d : Nat} {b : Bool} (hd : dstOf all j = some d) (hb : tmps[d]? = some (.bool b)) : yielded all.toArray tmps j = some b := by
 unfold dstOf at hd
 split at hd
 ·rename_i o ho
  unfold yielded
  simp [ho, hd, hb]
 ·cases hd
theorem sim_tail (hG : CtxOk P G) (hT : ∀ f fa, T f = some fa → CalleeOk P f fa ∧ (fa.isPlain = false → inList f A.lents = true)) {all tail : List Oper} {Q : Exit → Act → World → Prop} {st' : St} (hQ : ∀ S' ν' tmps' w', Inv B X w0 S' ν' st' tmps' w' → wpList P all.toArray Q tail ⟨tmps', ds⟩ w') :
  ∀ {rest : List Oper} {S : Nat → Prop} {ν : Nat → Value} {st : St} {tmps : Array Value} {w : World}, Inv B X w0 S ν st tmps w → (evOps G T A all rest st).run = some st' → wpList P all.toArray Q (rest ++ tail) ⟨tmps, ds⟩ w
 | [], S, ν, st, tmps, w, h, hr => by
  cases hr
  exact hQ _ _ _ _ h
 | o :: rest, S, ν, st, tmps, w, h, hr => by
  have step : ∀ {st1 : St}, Inv B X w0 S ν st1 tmps w → ((evOp G T A o st1).bind (evOps G T A all rest)).run = some st' → Oper.wp P o ⟨tmps, ds⟩ w (wpList P all.toArray Q (rest ++ tail)) Q := by
   intro st1 h1 hr1
   obtain ⟨st2, k1, k2⟩ := run_bind hr1
   exact evOp_ok (Λ := A.lents) hG (fun f fa h => (hT f fa h).1) (fun f fa h => (hT f fa h).2) h1 k1 _ _ fun S' ν' tmps' w' h' _ => sim_tail hG hT hQ h' k2
  unfold evOps at hr
  rw [List.cons_append]
  unfold wpList
  cases hg : o.guard with
  | none =>
   rw [hg] at hr
   have hw : Region.wanted o (yielded all.toArray tmps) = true := by simp [Region.wanted, hg]
   rw [if_pos hw]
   exact .inl (step h hr)
  | some jw =>
   obtain ⟨j, want⟩ := jw
   rw [hg] at hr
   dsimp only at hr
   split at hr
   ·rename_i d hd
    split at hr
    ·rename_i hsk
     have hy := skip_ok h hd hsk
     have hw : ¬ Region.wanted o (yielded all.toArray tmps) = true := by
      simp only [Region.wanted, hg, hy]
      simp
     rw [if_neg hw]
     have h2 := h.put (s := .skip) (v := undef) rfl o.dst ds
     have := sim_tail hG hT hQ (rest := rest) h2 hr
     rw [← act_eta] at this
     exact this
    obtain ⟨b, st1, hb, h1, hr⟩ := withBool_ok h hr
    have hy := yielded_ok hd hb
    by_cases hbw : (b == want) = true
    ·rw [if_pos hbw] at hr
     have hw : Region.wanted o (yielded all.toArray tmps) = true := by
      simp only [Region.wanted, hg, hy]
      simpa using hbw
     rw [if_pos hw]
     exact .inl (step h1 hr)
    ·rw [if_neg hbw] at hr
     have hw : ¬ Region.wanted o (yielded all.toArray tmps) = true := by
      simp only [Region.wanted, hg, hy]
      simpa using hbw
     rw [if_neg hw]
     have h2 := h1.put (s := .skip) (v := undef) rfl o.dst ds
     have := sim_tail hG hT hQ (rest := rest) h2 hr
     rw [← act_eta] at this
     exact this
   ·cases hr
theorem sim_ops (hG : CtxOk P G) (hT : ∀ f fa, T f = some fa → CalleeOk P f fa ∧ (fa.isPlain = false → inList f A.lents = true)) {all : List Oper} {Q : Exit → Act → World → Prop} {st' : St} (hQ : ∀ S' ν' tmps' w', Inv B X w0 S' ν' st' tmps' w' → Q .normal ⟨tmps', ds⟩ w')
  {rest : List Oper} {S : Nat → Prop} {ν : Nat → Value} {st : St} {tmps : Array Value} {w : World} (h : Inv B X w0 S ν st tmps w) (hr : (evOps G T A all rest st).run = some st') : wpList P all.toArray Q rest ⟨tmps, ds⟩ w := by
 have := sim_tail (tail := []) (Q := Q) hG hT (fun S' ν' tmps' w' h' => hQ S' ν' tmps' w' h') h hr
 rwa [List.append_nil] at this
def flatCh : List (List Oper × List Item) → List Oper → List Oper
 | [], last => last
 | (ops, _) :: r, last => ops ++ flatCh r last
theorem chunks_flat : ∀ (ks : List (Nat × List Item)) (ops : List Oper), flatCh (chunks ops ks).1 (chunks ops ks).2 = ops
 | [], _ => rfl
 | (k, l) :: r, ops => by
  unfold chunks flatCh
  rw [chunks_flat r (ops.drop k)]
  exact List.take_append_drop k ops
theorem sim_ch (hG : CtxOk P G) (hT : ∀ f fa, T f = some fa → CalleeOk P f fa ∧ (fa.isPlain = false → inList f A.lents = true)) {n : Nat} {all : List Oper} {Q : Exit → Act → World → Prop} {st' : St} (hQ : ∀ S' ν' tmps' w', Inv B X w0 S' ν' st' tmps' w' → Q .normal ⟨tmps', ds⟩ w') :
  ∀ (cs : List (List Oper × List Item)) (last : List Oper) {S : Nat → Prop} {ν : Nat → Value} {st : St} {tmps : Array Value} {w : World}, Inv B X w0 S ν st tmps w → (evCh G T A n all cs last st).run = some st' → wpList P all.toArray Q (flatCh cs last) ⟨tmps, ds⟩ w
 | [], last, S, ν, st, tmps, w, h, hr => sim_ops hG hT hQ h hr
 | (ops, l) :: r, last, S, ν, st, tmps, w, h, hr => by
  unfold evCh at hr
  obtain ⟨s, hs, hr⟩ := run_bnd hr
  obtain ⟨st1, k1, k2⟩ := run_bind hs
  unfold flatCh
  refine sim_tail hG hT (fun S' ν' tmps' w' h' => ?_) h k1
  split at k2
  ·rename_i s2 hs2
   cases k2
   obtain ⟨ν2, h2⟩ := lay_ok h' hs2
   exact sim_ch hG hT hQ r last h2 hr
  ·cases k2
theorem evOp_soft (hG : CtxOk P G) (h : Inv B X w0 S ν st tmps w) {o : Oper} (hl : softOp o = true) (hr : (evOp G T A o st).run = some st') : ∃ v S' ν', Yields P o ⟨tmps, ds⟩ w v ∧ (isLight o = true → ∀ w' : World, (execOp (⟨tmps, ds⟩ : Act).eval o).run P w' = .ok (.value v) w') ∧ Inv B X w0 S' ν' st' (Act.put ⟨tmps, ds⟩ o.dst v).tmps w := by
 by_cases hq : quietOp o.op = true
 ·by_cases hld : ∃ t a, o.op = .load t a
  ·obtain ⟨v, hy, S1, _, h2⟩ := evOp_pure (ds := ds) hG h hq hr
   obtain ⟨t, a, ho⟩ := hld
   exact ⟨v, S1, ν, hy, fun hl => by simp [isLight, ho] at hl, h2⟩
  ·by_cases hcv : ∃ t t' x, o.op = .convert t t' x
   ·obtain ⟨v, hy, S1, _, h2⟩ := evOp_pure (ds := ds) hG h hq hr
    obtain ⟨t, t', x, ho⟩ := hcv
    exact ⟨v, S1, ν, hy, fun hl => by simp [isLight, ho] at hl, h2⟩
   ·obtain ⟨v, hy, h2⟩ := evOp_all (ds := ds) hG h hq (fun t a e => hld ⟨t, a, e⟩) (fun t t' x e => hcv ⟨t, t', x, e⟩) hr
    exact ⟨v, S, ν, fun w' _ => hy w', fun _ => hy, h2⟩
 ·unfold softOp at hl
  have hl : isLight o = true := by simpa [hq] using hl
  unfold isLight at hl
  split at hl
  ·cases hl
  ·cases hl
  ·rename_i t x lo hi mx ho
   unfold evOp at hr
   rw [ho] at hr
   obtain ⟨v, S', ν', h1, h2⟩ := evSlice_ok' (ds := ds) hG h ho hr
   exact ⟨v, S', ν', fun w' _ => h1 w', fun _ => h1, h2⟩
  ·exact absurd hl hq
theorem sim_pairs (hG : CtxOk P G) (hT : ∀ f fa, T f = some fa → CalleeOk P f fa ∧ (fa.isPlain = false → inList f A.lents = true)) {all : List Oper} {Q : Act → World → Prop} {st' : St} (hQ : ∀ S' ν' tmps' w', Inv B X w0 S' ν' st' tmps' w' → Q ⟨tmps', ds⟩ w') :
  ∀ {σ : List Nat} {S : Nat → Prop} {ν : Nat → Value} {st : St} {tmps : Array Value} {w : World}, (∀ i ∈ σ, i < all.length) → Inv B X w0 S ν st tmps w → (evOps G T A all (pick all σ) st).run = some st' → wp2s P A.lents all.toArray Q σ ⟨tmps, ds⟩ w
 | [], S, ν, st, tmps, w, _, h, hr => by
  cases hr
  exact hQ _ _ _ _ h
 | k :: σ, S, ν, st, tmps, w, hl, h, hr => by
  have hk : k < all.length := hl k (by simp)
  have h0' : all[k]? = some all[k] := List.getElem?_eq_getElem hk
  generalize all[k] = o at h0'
  have h0 : all.toArray[k]? = some o := by simpa using h0'
  have hl' : ∀ i ∈ σ, i < all.length := fun i hi => hl i (by simp [hi])
  have hp : pick all (k :: σ) = o :: pick all σ := by simp [pick, h0']
  rw [hp] at hr
  have step : ∀ {st1 : St}, Region.wanted o (yielded all.toArray tmps) = true → Inv B X w0 S ν st1 tmps w → ((evOp G T A o st1).bind (evOps G T A all (pick all σ))).run = some st' → wp2s P A.lents all.toArray Q (k :: σ) ⟨tmps, ds⟩ w := by
   intro st1 hw h1 hr1
   obtain ⟨st2, k1, k2⟩ := run_bind hr1
   show wp2 P A.lents all.toArray Q k (wp2s P A.lents all.toArray Q σ) ⟨tmps, ds⟩ w
   by_cases hq : softOp o = true
   ·obtain ⟨v, S', ν', hy, hall, h2⟩ := evOp_soft (ds := ds) hG h1 hq k1
    refine (wp2_soft h0 hq).2 ⟨v, .inl ⟨hw, hy, hall⟩, ?_⟩
    rw [act_eta]
    exact sim_pairs hG hT hQ hl' h2 k2
   ·refine (wp2_hard h0 hq).2 ?_
    rw [if_pos hw]
    exact (evOp_ok (Λ := A.lents) (ds := ds) hG (fun f fa h => (hT f fa h).1) (fun f fa h => (hT f fa h).2) h1 k1) _ _ fun S' ν' tmps' w' h' hg => ⟨hg, sim_pairs hG hT hQ hl' h' k2⟩
  have skip : ∀ {st1 : St}, ¬ Region.wanted o (yielded all.toArray tmps) = true → Inv B X w0 S ν st1 tmps w → (evOps G T A all (pick all σ) (st1.put o.dst .skip)).run = some st' → wp2s P A.lents all.toArray Q (k :: σ) ⟨tmps, ds⟩ w := by
   intro st1 hw h1 hr1
   show wp2 P A.lents all.toArray Q k (wp2s P A.lents all.toArray Q σ) ⟨tmps, ds⟩ w
   have h2 := h1.put (s := .skip) (v := undef) rfl o.dst ds
   have := sim_pairs hG hT hQ (σ := σ) hl' h2 hr1
   rw [← act_eta] at this
   by_cases hq : softOp o = true
   ·exact (wp2_soft h0 hq).2 ⟨undef, .inr ⟨by simpa using hw, rfl⟩, this⟩
   ·refine (wp2_hard h0 hq).2 ?_
    rw [if_neg hw]; exact this
  unfold evOps at hr
  cases hg : o.guard with
  | none =>
   rw [hg] at hr
   have hw : Region.wanted o (yielded all.toArray tmps) = true := by simp [Region.wanted, hg]
   exact step hw h hr
  | some jw =>
   obtain ⟨j, want⟩ := jw
   rw [hg] at hr
   dsimp only at hr
   split at hr
   ·rename_i d hd
    split at hr
    ·rename_i hsk
     have hy := skip_ok h hd hsk
     have hw : ¬ Region.wanted o (yielded all.toArray tmps) = true := by
      simp only [Region.wanted, hg, hy]
      simp
     exact skip hw h hr
    obtain ⟨b, st1, hb, h1, hr⟩ := withBool_ok h hr
    have hy := yielded_ok hd hb
    by_cases hbw : (b == want) = true
    ·rw [if_pos hbw] at hr
     have hw : Region.wanted o (yielded all.toArray tmps) = true := by
      simp only [Region.wanted, hg, hy]
      simpa using hbw
     exact step hw h1 hr
    ·rw [if_neg hbw] at hr
     have hw : ¬ Region.wanted o (yielded all.toArray tmps) = true := by
      simp only [Region.wanted, hg, hy]
      simpa using hbw
     exact skip hw h1 hr
   ·cases hr
def Ex.real : Ex → Exit
 | .normal => .normal
 | .exit i => .exit i
 | .ret => .ret
theorem loopW_some {σ ρ : Type} {f : σ → Option (Lap σ ρ)} {s : σ} {r : ρ} (h : loopW f s = some r) : ∃ n, loopF f n s = some r := by
 unfold loopW at h
 split at h
 ·rename_i he
  cases h
  exact ⟨_, Classical.choose_spec (Classical.choose_spec he)⟩
 ·cases h
theorem sim_code (hm : P.follows .mixedOrders = true) (hG : CtxOk P G) (hT : ∀ f fa, T f = some fa → CalleeOk P f fa ∧ (fa.isPlain = false → inList f A.lents = true)) {n : Nat} :
  ∀ (c : Code) {st st' : St} {e : Ex} {S : Nat → Prop} {ν : Nat → Value} {tmps : Array Value} {w : World} {Q : Exit → Act → World → Prop}, Inv B X w0 S ν st tmps w → (evCode G T A L n c st).run = some (e, st') →
   (∀ S' ν' tmps' w', Inv B X w0 S' ν' st' tmps' w' → Q e.real ⟨tmps', ds⟩ w') → c.wp P Q ⟨tmps, ds⟩ w := by
 intro c
 induction c with
 | skip => intro st st' e S ν tmps w Q h hr hQ; cases hr; exact wp_skip (hQ _ _ _ _ h)
 | label l => intro st st' e S ν tmps w Q h hr hQ; cases hr; exact wp_label (hQ _ _ _ _ h)
 | exit id => intro st st' e S ν tmps w Q h hr hQ; cases hr; exact wp_exit (hQ _ _ _ _ h)
 | ret => intro st st' e S ν tmps w Q h hr hQ; cases hr; exact wp_ret (hQ _ _ _ _ h)
 | region id ops draw =>
  intro st st' e S ν tmps w Q h hr hQ
  unfold evCode at hr
  obtain ⟨l⟩ := ops
  cases draw with
  | false =>
   obtain ⟨st1, k1, k2⟩ := run_bind hr
   cases k2
   have := sim_ch (n := n) (Q := Q) hG hT (fun S' ν' tmps' w' h' => hQ _ _ _ _ h') _ _ h k1
   rw [chunks_flat] at this
   exact wp_region_list this
  | true =>
   rw [if_pos (show true = true from rfl)] at hr
   split at hr
   ·rename_i hd
    obtain ⟨st1, k1, k2⟩ := run_bind hr
    cases k2
    refine wp_region_pairs hm hd ?_
    have h1 : Inv B X w0 S ν st tmps { w with drawn := w.drawn + 1 } := h.grow (grown_drewN 1)
    exact sim_pairs (Q := Q .normal) hG hT (fun S' ν' tmps' w' h' => hQ _ _ _ _ h') (fun i hi => ((order_ok hd).2.mem i).1 hi) h1 k1
   ·cases hr
 | seq a b iha ihb =>
  intro st st' e S ν tmps w Q h hr hQ
  unfold evCode at hr
  split at hr
  ·rename_i l hl
   obtain ⟨s, hs, hr⟩ := run_bnd hr
   obtain ⟨⟨e1, st1⟩, k1, k2⟩ := run_bind hs
   refine wp_seq (iha h k1 fun S' ν' tmps' w' h' => ?_)
   cases e1 with
   | normal =>
    simp only [takeJ] at k2
    split at k2
    ·rename_i s2 hs2
     cases k2
     obtain ⟨ν2, h2⟩ := lay_ok h' hs2
     exact ihb h2 hr hQ
    ·cases k2
   | exit i => cases k2
   | ret => cases k2
  ·obtain ⟨⟨e1, st1⟩, k1, k2⟩ := run_bind hr
   refine wp_seq (iha h k1 fun S' ν' tmps' w' h' => ?_)
   cases e1 with
   | normal => exact ihb h' k2 hQ
   | exit i => cases k2; exact hQ _ _ _ _ h'
   | ret => cases k2; exact hQ _ _ _ _ h'
 | cond c x y ihx ihy =>
  intro st st' e S ν tmps w Q h hr hQ
  cases c with
  | tmp t =>
   unfold evCode at hr
   obtain ⟨b, st1, hb, h1, hr⟩ := withBool_ok h hr
   have he : (⟨tmps, ds⟩ : Act).eval (.tmp t) = .bool b := by
    show tmps.getD t undef = _
    rw [Array.getD_eq_getD_getElem?, hb]; rfl
   refine wp_cond he ?_
   cases b with
   | true => exact ihx h1 hr hQ
   | false => exact ihy h1 hr hQ
  | const v =>
   cases v with
   | bool b =>
    unfold evCode at hr
    refine wp_cond (t := b) rfl ?_
    cases b with
    | true => exact ihx h hr hQ
    | false => exact ihy h hr hQ
   | _ => cases hr
  | _ => cases hr
 | block id c ih =>
  intro st st' e S ν tmps w Q h hr hQ
  unfold evCode at hr
  obtain ⟨⟨e1, st1⟩, k1, k2⟩ := run_bind hr
  refine wp_block (ih h k1 fun S' ν' tmps' w' h' => ?_)
  cases e1 with
  | normal => cases k2; exact hQ _ _ _ _ h'
  | exit i =>
   dsimp only at k2
   show (if i = id then Q .normal _ _ else Q (.exit i) _ _)
   split at k2
   ·rename_i hi
    rw [if_pos (nbeq.1 hi)]
    cases k2
    exact hQ _ _ _ _ h'
   ·rename_i hi
    rw [if_neg (fun e => hi (nbeq.2 e))]
    cases k2
    exact hQ _ _ _ _ h'
  | ret => cases k2; exact hQ _ _ _ _ h'
 | loop c ih =>
  intro st st' e S ν tmps w Q h hr hQ
  unfold evCode at hr
  split at hr
  ·rename_i l hl
   split at hr
   ·rename_i s0 hs0
    obtain ⟨ν0, hlay⟩ := lay_ok h hs0
    split at hr
    · -- with returns
     have rounds : ∀ (m : Nat) (s : Items.I l.head) (r : Sum (Items.I l.out) (Items.I l.res)) {ν : Nat → Value} {S : Nat → Prop} {tmps : Array Value} {w : World}, Inv B X w0 S ν (layItems l.head s (St.clear n)) tmps w →
       loopF (fun s => ((evCode G T A L n c (layItems l.head s (St.clear n))).bind (lapBoth l n)).run) m s = some r →
       (∀ S' ν' tmps' w', (match r with | .inl r => Inv B X w0 S' ν' (layItems l.out r (St.clear n)) tmps' w' → Q (.exit l.xid) ⟨tmps', ds⟩ w' | .inr r => Inv B X w0 S' ν' (layItems l.res r (St.clear n)) tmps' w' → Q .ret ⟨tmps', ds⟩ w')) →
       Code.rounds P c Q m ⟨tmps, ds⟩ w := by
      intro m
      induction m with
      | zero => intro s r ν S tmps w _ hf; cases hf
      | succ m ihm =>
       intro s r ν S tmps w hi hf hQ'
       unfold loopF at hf
       rw [rounds_succ]
       split at hf
       ·rename_i s' hs'
        obtain ⟨⟨e1, st1⟩, k1, k2⟩ := run_bind hs'
        refine ih hi k1 fun S' ν' tmps' w' h' => ?_
        cases e1 with
        | normal =>
         simp only [lapBoth] at k2
         split at k2
         ·rename_i s2 hs2
          cases k2
          obtain ⟨ν2, h2⟩ := lay_ok h' hs2
          exact ihm s' r h2 hf hQ'
         ·cases k2
        | exit i =>
         simp only [lapBoth] at k2
         split at k2
         ·split at k2 <;> cases k2
         ·cases k2
        | ret =>
         simp only [lapBoth] at k2
         split at k2 <;> cases k2
       ·rename_i r' hr'
        cases hf
        obtain ⟨⟨e1, st1⟩, k1, k2⟩ := run_bind hr'
        refine ih hi k1 fun S' ν' tmps' w' h' => ?_
        cases e1 with
        | normal =>
         simp only [lapBoth] at k2
         split at k2 <;> cases k2
        | exit i =>
         simp only [lapBoth] at k2
         split at k2
         ·rename_i hi
          have hi := nbeq.1 hi
          subst hi
          split at k2
          ·rename_i s2 hs2
           cases k2
           obtain ⟨ν2, h2⟩ := lay_ok h' hs2
           exact hQ' _ _ _ _ h2
          ·cases k2
         ·cases k2
        | ret =>
         simp only [lapBoth] at k2
         split at k2
         ·rename_i s2 hs2
          cases k2
          obtain ⟨ν2, h2⟩ := lay_ok h' hs2
          exact hQ' _ _ _ _ h2
         ·cases k2
       ·cases hf
     cases hlw : loopW (fun s => ((evCode G T A L n c (layItems l.head s (St.clear n))).bind (lapBoth l n)).run) s0 with
     | none => rw [hlw] at hr; cases hr
     | some r =>
      rw [hlw] at hr
      obtain ⟨m, hm'⟩ := loopW_some hlw
      refine wp_loop_rounds m (rounds m s0 r hlay hm' fun S' ν' tmps' w' => ?_)
      cases r with
      | inl r => cases hr; exact fun h' => hQ _ _ _ _ h'
      | inr r => cases hr; exact fun h' => hQ _ _ _ _ h'
    ·have rounds : ∀ (m : Nat) (s : Items.I l.head) (r : Items.I l.out) {ν : Nat → Value} {S : Nat → Prop} {tmps : Array Value} {w : World}, Inv B X w0 S ν (layItems l.head s (St.clear n)) tmps w →
       loopF (fun s => ((evCode G T A L n c (layItems l.head s (St.clear n))).bind (lapOut l n)).run) m s = some r →
       (∀ S' ν' tmps' w', Inv B X w0 S' ν' (layItems l.out r (St.clear n)) tmps' w' → Q (.exit l.xid) ⟨tmps', ds⟩ w') →
       Code.rounds P c Q m ⟨tmps, ds⟩ w := by
      intro m
      induction m with
      | zero => intro s r ν S tmps w _ hf; cases hf
      | succ m ihm =>
       intro s r ν S tmps w hi hf hQ'
       unfold loopF at hf
       rw [rounds_succ]
       split at hf
       ·rename_i s' hs'
        obtain ⟨⟨e1, st1⟩, k1, k2⟩ := run_bind hs'
        refine ih hi k1 fun S' ν' tmps' w' h' => ?_
        cases e1 with
        | normal =>
         simp only [lapOut] at k2
         split at k2
         ·rename_i s2 hs2
          cases k2
          obtain ⟨ν2, h2⟩ := lay_ok h' hs2
          exact ihm s' r h2 hf hQ'
         ·cases k2
        | exit i =>
         simp only [lapOut] at k2
         split at k2
         ·split at k2 <;> cases k2
         ·cases k2
        | ret => cases k2
       ·rename_i r' hr'
        cases hf
        obtain ⟨⟨e1, st1⟩, k1, k2⟩ := run_bind hr'
        refine ih hi k1 fun S' ν' tmps' w' h' => ?_
        cases e1 with
        | normal =>
         simp only [lapOut] at k2
         split at k2 <;> cases k2
        | exit i =>
         simp only [lapOut] at k2
         split at k2
         ·rename_i hi
          have hi := nbeq.1 hi
          subst hi
          split at k2
          ·rename_i s2 hs2
           cases k2
           obtain ⟨ν2, h2⟩ := lay_ok h' hs2
           exact hQ' _ _ _ _ h2
          ·cases k2
         ·cases k2
        | ret => cases k2
       ·cases hf
     obtain ⟨r, hlw, hr⟩ := run_bnd hr
     cases hr
     obtain ⟨m, hm'⟩ := loopW_some hlw
     exact wp_loop_rounds m (rounds m s0 r hlay hm' fun S' ν' tmps' w' h' => hQ _ _ _ _ h')
   ·cases hr
  ·cases hr
 | _ => intro st st' e S ν tmps w Q h hr hQ; cases hr
theorem argSlots_len : ∀ {ps : List Ty} {x : Tys.I ps}, (argSlots ps x).length = ps.length
 | [], _ => rfl
 | t :: r, x => by
  show (argSlots r x.2).length + 1 = r.length + 1
  rw [argSlots_len]
theorem args_len : ∀ {ps : List Ty} {x : Tys.I ps} {vs : List Value}, ArgsRd w ps x vs → vs.length = ps.length
 | [], _, vs, h => by
  have h : vs = [] := h
  subst h; rfl
 | t :: r, x, vs, h => by
  obtain ⟨v, us, rfl, _, h2⟩ := h
  show us.length + 1 = r.length + 1
  rw [args_len h2]
theorem argSlots_get : ∀ {ps : List Ty} {x : Tys.I ps} {vs : List Value}, ArgsRd w ps x vs → ∀ (i : Nat) (s : Slot), (argSlots ps x)[i]? = some s → ∃ t y v, s = .val false t y ∧ vs[i]? = some v ∧ RdV w (fun _ => False) t y v
 | [], _, vs, _, i, s, hs => by
  have : (argSlots [] ())[i]? = none := by simp [argSlots]
  exact absurd hs (by rw [show argSlots [] _ = [] from rfl]; simp)
 | t :: r, x, vs, h, i, s, hs => by
  obtain ⟨v, us, rfl, h1, h2⟩ := h
  cases i with
  | zero => cases hs; exact ⟨t, x.1, v, rfl, rfl, h1⟩
  | succ i => exact argSlots_get h2 i s hs
theorem start_ok (hla : Held w) {ps : List Ty} {x : Tys.I ps} {args : Array Value} (h : ArgsRd w ps x args.toList) (n : Nat) :
  Inv w.heap.size Lnt.none w (fun _ => False) (fun _ => undef) { env := argSlots ps x ++ List.replicate (n - ps.length) .undef, objs := [] } (args ++ Array.replicate (n - args.size) undef) w := by
 have hl := args_len h
 rw [Array.length_toList] at hl
 refine ⟨Kept.self _ _, ⟨Nat.le_refl _, hla.start⟩, by simp [argSlots_len, hl], fun i s hi => ?_, (fun g o ho => by cases ho), (fun g o b ho => by cases ho), (fun b hb => hb.elim), (fun o ho => by cases ho), ⟨fun b hb => by simp [Lnt.none, Value.ownBlock] at hb, fun b hb => hb.elim⟩, (fun b hb => hb.elim), (fun g o b ho => by cases ho), (fun q hq => by cases hq), (fun g h o p b ho => by cases ho)⟩
 rcases Nat.lt_or_ge i ps.length with hi' | hi'
 ·rw [List.getElem?_append_left (by rw [argSlots_len]; exact hi')] at hi
  obtain ⟨t, y, v, rfl, h1, h2⟩ := argSlots_get h i s hi
  refine ⟨v, ?_, ?_⟩
  ·rw [Array.getElem?_append_left (by omega), ← Array.getElem?_toList]
   exact h1
  ·exact h2.keep (Nat.le_refl _) (fun b _ hb => by
    rcases hb with hb | ⟨hb, _⟩
    ·exact hb
    ·cases hb) (fun _ _ _ => rfl)
 ·rw [List.getElem?_append_right (by rw [argSlots_len]; exact hi'), argSlots_len, List.getElem?_replicate] at hi
  split at hi
  ·rename_i hlt
   cases hi
   refine ⟨undef, ?_, trivial⟩
   rw [Array.getElem?_append_right (by omega), Array.getElem?_replicate, if_pos (by omega)]
  ·cases hi
theorem retVal_ok (_h : Inv B X w0 S ν st tmps w) {t : Ty} {x : t.I} {s : Slot} {v : Value} (hs : SlotRd B X w S ν st.objs s v) (hx : retVal st t s = some x) {S1 : Nat → Prop} (hS : ∀ b, S1 b → S b) : RdV w (Av S1 B true) t x v := by
 unfold retVal at hx
 split at hx
 ·cases hx
 ·cases hx
 ·rename_i hn1 hn2
  split at hx
  ·rename_i fr y hy
   split at hx
   ·rename_i hf
    cases hx
    have k4 : RdV w (Av S B fr) t x v := by
     unfold St.asVal at hy
     split at hy
     ·split at hy
      ·rename_i y' hy'; cases hy; exact RdV.cast hy' hs
      ·cases hy
     ·rename_i b
      split at hy
      ·rename_i y' hy'
       cases hy
       have hv : v = .bool b := hs
       rw [hv]; exact RdV.cast hy' (bool_val b)
      ·cases hy
     ·split at hy
      ·cases hy
       have hv : v = .slice none 0 0 := hs
       rw [hv]; exact nil_val
      ·cases hy
     ·split at hy
      ·cases hy
       have hv : v = .nilIface := hs
       rw [hv]; exact nili_val
      ·cases hy
     ·split at hy
      ·rename_i y' hy'
       cases hy
       exact RdV.cast hy' (show Slot1Rd B X w S ν st.objs (.nn _ _ _) v from hs).1
      ·cases hy
     ·exact absurd rfl (hn1 _)
     ·exact absurd rfl (hn2 _ _ _ _ _)
     ·split at hy
      ·split at hy
       ·rename_i y' hy'
        cases hy
        have e := cast_self hy'
        subst e
        simp [Ty.flat] at hf
       ·cases hy
      ·cases hy
     ·split at hy
      ·rename_i y' hy'
       cases hy
       have e := cast_self hy'
       subst e
       simp [Ty.flat] at hf
      ·cases hy
     ·cases hy
    rw [Bool.or_eq_true] at hf
    rcases hf with hf | hf
    ·subst hf
     exact k4.keep (Nat.le_refl _) (fun b _ hb => hb.imp (hS b) id) (fun _ _ _ => rfl)
    ·exact k4.flat hf
   ·cases hx
  ·cases hx
theorem retRow_ok (h : Inv B X w0 S ν st tmps w) {eid : TypeId} {e : Ty} {x : List e.I} {s : Slot} {v : Value} (hs : SlotRd B X w S ν st.objs s v) (hx : retRow st eid e s = some x) {S1 : Nat → Prop} (hS : ∀ b, S1 b → S b) :
  (ObjRd B w S1 v ⟨eid, true, e, x⟩ ∧ ∀ b, v.ownBlock = some b → B ≤ b) ∧ ∀ b, v.ownBlock = some b → ∃ g o, s = .ref g ∧ olook g st.objs = some o ∧ (ν g).ownBlock = some b := by
 unfold retRow at hx
 split at hx
 ·cases hx
  have hs : v = .slice none 0 0 := hs
  rw [hs]
  exact ⟨⟨⟨[], World.ownsRow_nil w 0 eid e.size, fun j x hj => by simp at hj⟩, (fun b hb => by cases hb)⟩, (fun b hb => by cases hb)⟩
 ·rename_i g
  split at hx
  ·rename_i o ho
   split at hx
   ·rename_i hc
    rw [Bool.and_eq_true, Bool.and_eq_true, Bool.not_eq_true'] at hc
    have he := nbeq.1 hc.1.1
    obtain ⟨e1, e2⟩ := ref_val h hs ho
    rw [e1]
    refine ⟨⟨?_, fun b hb => (h.nw g o b ho hb).resolve_right fun h => by rw [hc.2] at h; cases h.1⟩, fun b hb => ⟨g, o, rfl, ho, hb⟩⟩
    rw [← he]
    exact (obj_weak (fr := true) e2 (by simpa using hc.1.2) hx).mono (World.grownBy.refl w none) (fun b _ hb => hS b hb)
   ·cases hx
  ·cases hx
 ·cases hx
def resSem (tmps : Array Value) : ResultVar → Sem Value
 | .tmp t => pure (tmps.getD t undef)
 | .cell a t => do loadVar t (← asAddr (tmps.getD a undef))
def resVal (P : Program) (tmps : Array Value) (w : World) (r : ResultVar) (v : Value) : Prop := (resSem tmps r).run P w = .ok v w
theorem results_eq (fn : Func) (tmps : Array Value) : results fn tmps = (do let vs ← fn.results.mapM (resSem tmps); pure (if h : vs.size = 1 then vs[0] else .tuple vs)) := by
 unfold results
 congr 1
theorem resSlot_ok (hG : CtxOk P G) (h : Inv B X w0 S ν st tmps w) {r : ResultVar} {s : Slot} (hs : resSlot G st r = some s) : ∃ v, resVal P tmps w r v ∧ SlotRd B X w S ν st.objs s v := by
 cases r with
 | tmp t =>
  cases hs
  obtain ⟨v, hv, hr⟩ := h.get t
  exact ⟨v, by show (pure (tmps.getD t undef) : Sem Value).run P w = .ok v w; rw [hv]; rfl, hr⟩
 | cell a t =>
  simp only [resSlot] at hs
  split at hs
  ·rename_i g u0 sn u hg hu
   split at hs
   ·rename_i o ho
    split at hs
    ·rename_i x hx
     split at hs
     ·rename_i y hy
      cases hs
      obtain ⟨v, hv, hr⟩ := h.get a
      rw [hg] at hr
      obtain ⟨o1, b, n, cap, el, p1, p2, p3, p4, p5, p6, _⟩ := hr
      rw [ho] at p1
      have e0 : o1 = o := by injection p1 with p1; exact p1.symm
      subst e0
      rw [hx] at p5
      have e1 : el = x := by injection p5 with p5; exact p5.symm
      subst e1
      have hobj := h.obj g o1 ho
      obtain ⟨us, k1, k2⟩ := obj_at hobj p2 (i := 0) (by rw [hx]; rfl) (path := []) (getAt_nil _ _)
      have e2 := cast_val hy
      obtain ⟨eid, fr, e, xs⟩ := o1
      dsimp only at *
      have e3 := cast_self hy
      subst e3
      cases e2
      have hT := hG.ty _ _ hu
      have hrun := run_loadVar (P := P) hT (ad := ⟨b, 0, none⟩) k1.len (w' := w) (fun j v hj => by
       have := k2 j v hj
       rw [addr_add, Nat.zero_add]
       rw [offAt_nil, Nat.zero_mul, Nat.zero_add] at this
       simpa using this) (no_pair hT)
      refine ⟨mkV e us, ?_, ⟨us, k1, rfl⟩⟩
      show ((do loadVar t (← asAddr (tmps.getD a undef))) : Sem Value).run P w = _
      rw [hv, p4, offAt_nil]
      simp [asAddr, hrun]
     ·cases hs
    ·cases hs
   ·cases hs
  ·cases hs
def AllRes (P : Program) (tmps : Array Value) (w : World) : List ResultVar → List Value → Prop
 | [], vs => vs = []
 | r :: rs, vs => ∃ v us, vs = v :: us ∧ resVal P tmps w r v ∧ AllRes P tmps w rs us
theorem res_run {fn : Func} {vs : List Value} (h : AllRes P tmps w fn.results.toList vs) : (results fn tmps).run P w = .ok (match vs with | [v] => v | _ => .tuple vs.toArray) w := by
 have hm : ∀ (l : List ResultVar) (vs : List Value), AllRes P tmps w l vs → (l.mapM (resSem tmps)).run P w = .ok vs w := by
  intro l
  induction l with
  | nil =>
   intro vs h
   have h : vs = [] := h
   subst h
   simp
  | cons r l ih =>
   rintro vs ⟨v, us, rfl, h1, h2⟩
   have ih := ih us h2
   have h1 : (resSem tmps r).run P w = .ok v w := h1
   rw [List.mapM_cons, Sem.run_bind, h1]
   simp [ih]
 have h2 := hm _ _ h
 have h3 : (fn.results.mapM (resSem tmps)).run P w = .ok vs.toArray w := by
  rw [Array.mapM_eq_mapM_toList]
  simp [h2]
 rw [results_eq, Sem.run_bind, h3]
 match vs with
 | [] => simp
 | [v] => simp
 | v :: u :: r => simp
theorem retAll_ok (hG : CtxOk P G) (h : Inv B X w0 S ν st tmps w) {S1 : Nat → Prop} (hS : ∀ b, S1 b → S b) : ∀ {rs : List RTy} {l : List ResultVar} {x : RTys.I rs}, retAll G st rs l = some x →
  ∃ vs, AllRes P tmps w l vs ∧ RetList B w S1 rs x vs ∧ (∀ b ∈ rowBlocks rs vs, ∃ g o, g ∈ rowTags G st rs l ∧ olook g st.objs = some o ∧ (ν g).ownBlock = some b) ∧ ((rowTags G st rs l).Nodup → (rowBlocks rs vs).Nodup) := by
 have one : ∀ {r : RTy} {s : Slot} {v : Value} {x : r.I}, SlotRd B X w S ν st.objs s v → retOne st r s = some x → RetOne B w S1 r x v ∧ ((∃ eid e, r = .row eid e) → ∀ b, v.ownBlock = some b → ∃ g o, s = .ref g ∧ olook g st.objs = some o ∧ (ν g).ownBlock = some b) := by
  intro r s v x hs hx
  cases r with
  | v t => exact ⟨retVal_ok h hs hx hS, fun ⟨_, _, e⟩ => by cases e⟩
  | row eid e =>
   obtain ⟨k1, k2⟩ := retRow_ok h hs hx hS
   exact ⟨k1, fun _ => k2⟩
 intro rs
 induction rs with
 | nil =>
  intro l x hx
  cases l with
  | nil => exact ⟨[], rfl, rfl, (fun b hb => by cases hb), fun _ => List.nodup_nil⟩
  | cons _ _ => cases hx
 | cons r q ih =>
  intro l x hx
  cases q with
  | nil =>
   match l, hx with
   | [rv], hx =>
    unfold retAll at hx
    split at hx
    ·rename_i s hs
     obtain ⟨v, h1, h2⟩ := resSlot_ok hG h hs
     obtain ⟨k1, k2⟩ := one h2 hx
     refine ⟨[v], ⟨v, [], rfl, h1, rfl⟩, ⟨v, rfl, k1⟩, fun b hb => ?_, fun _ => ?_⟩
     ·cases r with
      | v t => cases hb
      | row eid e =>
       simp only [rowBlocks, List.append_nil] at hb
       split at hb
       ·rename_i b' hb'
        rw [List.mem_singleton] at hb
        subst hb
        obtain ⟨g, o, e1, e2, e3⟩ := k2 ⟨_, _, rfl⟩ _ hb'
        subst e1
        exact ⟨g, o, by simp [rowTags, hs], e2, e3⟩
       ·cases hb
     ·cases r <;> simp only [rowBlocks]
      ·exact List.nodup_nil
      ·split <;> simp
    ·cases hx
   | [], hx => cases hx
   | _ :: _ :: _, hx => cases hx
  | cons s2 q =>
   match l, hx with
   | [], hx => cases hx
   | rv :: rvs, hx =>
    unfold retAll at hx
    split at hx
    ·rename_i s hs
     split at hx
     ·rename_i y z hy hz
      cases hx
      obtain ⟨v, h1, h2⟩ := resSlot_ok hG h hs
      obtain ⟨k1, k2⟩ := one h2 hy
      obtain ⟨vs, m1, m2, m3, m4⟩ := ih hz
      have head : ∀ b, (∃ eid e, r = .row eid e) → v.ownBlock = some b → ∃ g o, s = .ref g ∧ olook g st.objs = some o ∧ (ν g).ownBlock = some b := fun b hr hb => k2 hr b hb
      refine ⟨v :: vs, ⟨v, vs, rfl, h1, m1⟩, ⟨v, vs, rfl, k1, m2⟩, fun b hb => ?_, fun hn => ?_⟩
      ·cases r with
       | v t =>
        obtain ⟨g, o, e1, e2⟩ := m3 b hb
        exact ⟨g, o, e1, e2⟩
       | row eid e =>
        simp only [rowBlocks] at hb
        rcases List.mem_append.1 hb with hb | hb
        ·split at hb
         ·rename_i b' hb'
          rw [List.mem_singleton] at hb
          subst hb
          obtain ⟨g, o, e1, e2, e3⟩ := head _ ⟨_, _, rfl⟩ hb'
          subst e1
          exact ⟨g, o, by simp [rowTags, hs], e2, e3⟩
         ·cases hb
        ·obtain ⟨g, o, e1, e2⟩ := m3 b hb
         exact ⟨g, o, List.mem_append.2 (.inr e1), e2⟩
      ·cases r with
       | v t => exact m4 hn
       | row eid e =>
        simp only [rowTags] at hn
        have hn' := List.nodup_append.1 hn
        simp only [rowBlocks]
        refine List.nodup_append.2 ⟨by split <;> simp, m4 hn'.2.1, ?_⟩
        intro a ha b hb hab
        subst hab
        split at ha
        ·rename_i b' hb'
         rw [List.mem_singleton] at ha
         subst ha
         obtain ⟨g, o, e1, e2, e3⟩ := head _ ⟨_, _, rfl⟩ hb'
         obtain ⟨g', o', f1, f2, f3⟩ := m3 _ hb
         have := h.sep g g' o o' _ e2 f2 e3 f3
         subst this
         subst e1
         rw [hs] at hn'
         exact hn'.2.2 g (by simp) g f1 rfl
        ·cases ha
     ·cases hx
    ·cases hx
theorem RetList.len {S1 : Nat → Prop} : ∀ {rs : List RTy} {x : RTys.I rs} {vs : List Value}, RetList B w S1 rs x vs → vs.length = rs.length
 | [], _, _, h => by
  have h := h
  unfold RetList at h
  subst h; rfl
 | [r], _, _, h => by
  obtain ⟨v, rfl, _⟩ := h
  rfl
 | r :: s :: q, _, _, h => by
  obtain ⟨v, us, rfl, _, h2⟩ := h
  show us.length + 1 = (s :: q).length + 1
  rw [RetList.len h2]
theorem evFunS_ok (hm : P.follows .mixedOrders = true) (hG : CtxOk P G) (hT : ∀ f fa, T f = some fa → CalleeOk P f fa ∧ (fa.isPlain = false → inList f A.lents = true)) {f : FuncId} {fn : Func} (hf : P.funcs[f]? = some fn) {ss : List Slot} {rs : List RTy} {w : World} {args : Array Value} {r : RTys.I rs} {c : Code} (hc : fn.body = some c)
  (hstart : Inv w.heap.size Lnt.none w (fun _ => False) (fun _ => undef) { env := ss ++ List.replicate (fn.ntmps - ss.length) .undef, objs := [] } (args ++ Array.replicate (fn.ntmps - args.size) undef) w)
  (hx : (evFunS G T A L fn ss rs).run = some r) : Calls P f args w fun e w' => ∃ v, e = .returned v ∧ Below w.heap.size w w' ∧ RetRd w.heap.size w' rs r v := by
  unfold evFunS at hx
  rw [hc] at hx
  dsimp only at hx
  obtain ⟨⟨e, st'⟩, k1, k2⟩ := run_bind hx
  refine calls_of_wp hf hc (sim_code (ds := []) hm hG hT c hstart k1 fun S' ν' tmps' w' h' => ?_)
  have fin : (if nodupTags (rowTags G st' rs fn.results.toList) then (match retAll G st' rs fn.results.toList with | some y => (Tr.pure y : Tr (RTys.I rs)) | none => .fail) else .fail).run = some r →
    ∃ v, (results fn tmps').run P w' = .ok v w' ∧ ∃ u, Ending.returned v = .returned u ∧ Below w.heap.size w w' ∧ RetRd w.heap.size w' rs r u := by
   intro hr
   split at hr
   ·rename_i hn
    split at hr
    ·rename_i y hy
     cases hr
     obtain ⟨vs, m1, _, m3, m4⟩ := retAll_ok hG h' (S1 := S') (fun _ h => h) hy
     have hsub : ∀ b, b ∈ rowBlocks rs vs → S' b := fun b hb => by
      obtain ⟨g, o, _, e1, e2⟩ := m3 b hb
      exact h'.own g o b e1 e2
     obtain ⟨vs2, q1, q2, _, _⟩ := retAll_ok hG h' (S1 := fun b => b ∈ rowBlocks rs vs) hsub hy
     have huniq : ∀ (l : List ResultVar) (us vs : List Value), AllRes P tmps' w' l us → AllRes P tmps' w' l vs → us = vs := by
      intro l
      induction l with
      | nil =>
       intro us vs h1 h2
       have h1 : us = [] := h1
       have h2 : vs = [] := h2
       rw [h1, h2]
      | cons r l ih =>
       rintro _ _ ⟨v, us, rfl, a1, a2⟩ ⟨v', us', rfl, b1, b2⟩
       have a1 : (resSem tmps' r).run P w' = .ok v w' := a1
       have b1 : (resSem tmps' r).run P w' = .ok v' w' := b1
       rw [a1] at b1
       injection b1 with b1
       rw [b1, ih _ _ a2 b2]
     have := huniq _ _ _ q1 m1
     subst this
     have hlen : vs2.length = rs.length := q2.len
     refine ⟨_, res_run m1, _, rfl, h'.fr.below, vs2, ?_, m4 (nodup_tags hn), q2⟩
     match rs, vs2, hlen with
     | [], [], _ => rfl
     | [_], [_], _ => rfl
     | _ :: _ :: _, _ :: _ :: _, _ => rfl
    ·cases hr
   ·cases hr
  cases e with
  | normal =>
   obtain ⟨v, h1, u, h2, h3⟩ := fin k2
   exact ⟨rfl, v, h1, u, h2, h3⟩
  | ret =>
   obtain ⟨v, h1, u, h2, h3⟩ := fin k2
   exact ⟨rfl, v, h1, u, h2, h3⟩
  | exit i => cases k2
theorem evFun_ok (hm : P.follows .mixedOrders = true) (hG : CtxOk P G) (hT : ∀ f fa, T f = some fa → CalleeOk P f fa ∧ (fa.isPlain = false → inList f A.lents = true)) {f : FuncId} {fn : Func} (hf : P.funcs[f]? = some fn) (hname : (fn.name == "runtime.NumGoroutine") = false) {ps : List Ty} {rs : List RTy}
  (F : Tys.I ps → Option (RTys.I rs)) (hF : ∀ x, (evFun G T A L fn ps rs x).run = F x) (hb : fn.body.isSome = true) (_hres : fn.results.size = rs.length) : FunOk P f ⟨ps, rs, F⟩ := by
 cases hc : fn.body with
 | none => rw [hc] at hb; cases hb
 | some c =>
  refine ⟨⟨fn, c, hf, hname, hc⟩, fun x r hx w args hla hargs => ?_⟩
  have hx : F x = some r := hx
  rw [← hF] at hx
  have hstart := start_ok hla hargs fn.ntmps
  have e : evFun G T A L fn ps rs x = evFunS G T A L fn (argSlots ps x) rs := by
   unfold evFun evFunS
   rw [argSlots_len]
  rw [e] at hx
  rw [← argSlots_len (ps := ps) (x := x)] at hstart
  exact evFunS_ok hm hG hT hf hc hstart hx
theorem evFunN_ok (hm : P.follows .mixedOrders = true) (hG : CtxOk P G) (hT : ∀ f fa, T f = some fa → CalleeOk P f fa ∧ (fa.isPlain = false → inList f A.lents = true)) {f : FuncId} {fn : Func} (hf : P.funcs[f]? = some fn) (hname : (fn.name == "runtime.NumGoroutine") = false) {e : Ty} {rs : List RTy}
  (F : Tys.I [.sl e] → Option (RTys.I rs)) (h0 : ∀ r, F ([], ()) = some r → (evFunS G T A L fn [.nil] rs).run = some r) (h1 : ∀ xs r, F (xs, ()) = some r → (evFunS G T A L fn [.nn false e xs] rs).run = some r)
  (hb : fn.body.isSome = true) : FunOk P f ⟨[.sl e], rs, F⟩ := by
 cases hc : fn.body with
 | none => rw [hc] at hb; cases hb
 | some c =>
  refine ⟨⟨fn, c, hf, hname, hc⟩, fun x r hx w args hla hargs => ?_⟩
  obtain ⟨xs, ⟨⟩⟩ := x
  have hx : F (xs, ()) = some r := hx
  have hstart := start_ok hla hargs fn.ntmps
  obtain ⟨v, us, hv, hrd, hus⟩ := hargs
  have hus : us = [] := hus
  subst hus
  have hargs' : args = #[v] := by
   obtain ⟨l⟩ := args
   have hv : l = [v] := hv
   rw [hv]
  have hrd' : RdV w (fun _ => False) (.sl e) xs v := hrd
  have go : ∀ s : Slot, SlotRd w.heap.size Lnt.none w (fun _ => False) (fun _ => undef) [] s v → (evFunS G T A L fn [s] rs).run = some r → Calls P f args w fun e w' => ∃ v, e = .returned v ∧ Below w.heap.size w w' ∧ RetRd w.heap.size w' rs r v := by
   intro s hs hx
   refine evFunS_ok hm hG hT hf hc (ss := [s]) ?_ hx
   refine ⟨hstart.fr, hstart.base, ?_, fun i u hi => ?_, hstart.obj, hstart.own, hstart.lt, hstart.win, hstart.lx2, hstart.lm, hstart.nw, hstart.hole, hstart.sep⟩
   ·have := hstart.len
    simpa [argSlots] using this
   ·cases i with
    | zero =>
     simp only [List.cons_append, List.getElem?_cons_zero, Option.some.injEq] at hi
     subst hi
     refine ⟨v, ?_, hs⟩
     rw [hargs', Array.getElem?_append_left (by simp)]
     simp
    | succ i => exact hstart.slot (i + 1) u (by simpa [argSlots] using hi)
  obtain ⟨A, cap, e1, e2, e4, e3⟩ := val_slice hrd'
  cases A with
  | some a => exact go (.nn false e xs) ⟨hrd'.keep (Nat.le_refl _) (fun b _ hb => by
    rcases hb with hb | ⟨hb, _⟩
    ·exact hb
    ·cases hb) (fun _ _ _ => rfl), a, xs.length, cap, e1⟩ (h1 xs r hx)
  | none =>
   have hxs : xs = [] := by
    cases xs with
    | nil => rfl
    | cons x xs => obtain ⟨ad, h, _⟩ := e3 0 x rfl; cases h
   subst hxs
   exact go .nil (by rw [e1, e4 rfl]; rfl) (h0 r hx)
end Go.Proofs.YtenbhmjcoljddaaGreatDoor
