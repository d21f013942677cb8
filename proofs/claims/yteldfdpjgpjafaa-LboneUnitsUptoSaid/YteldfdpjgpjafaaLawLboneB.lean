/-
  The laws of lbone return true: units.
-/
import Derived.Test.YteldfdpjgpjafaaLawLbone
namespace Go.Proofs.Yteldfdpjgpjafaa

/-- what a unit is -/
structure Unit' (cs ws : List Int) (u : U) : Prop where
  lo : 0 ≤ u.1
  lt : u.1 < u.2.1
  le : u.2.1 ≤ cs.length
  cls : u.2.2.1 = if isM cs ws u.1.toNat then 1 else cl (cs.getD u.1.toNat 0)
  joined : u.2.2.2 = (cs.getD (u.2.1 - 1).toNat 0 == 4)
  marks : ∀ k : Nat, u.1 < k → (k : Int) < u.2.1 → isM cs ws k = true
  takes : 1 < u.2.1 - u.1 → tk (cs.getD u.1.toNat 0) = true

/-- units that follow one another, the last one first -/
def ChainR (cs ws : List Int) : List U → Int → Prop
  | [], n => n = 0
  | u :: r, n => Unit' cs ws u ∧ u.2.1 = n ∧ ChainR cs ws r u.1 ∧ (∀ v r', r = v :: r' → isM cs ws u.1.toNat = true → tk (cs.getD v.1.toNat 0) = false)

theorem mark_takes {cs ws : List Int} {k : Nat} (h : isM cs ws k = true) : tk (cs.getD k 0) = true := by
  unfold isM at h
  simp only [Bool.or_eq_true, Bool.and_eq_true, beq_iff_eq] at h
  unfold tk
  have : cs.getD k 0 = 3 ∨ cs.getD k 0 = 4 ∨ cs.getD k 0 = 40 := by
    rcases h with (h | h) | h
    · exact .inl h
    · exact .inr (.inl h)
    · exact .inr (.inr h.1.1)
  rcases this with h | h | h <;> rw [h] <;> rfl

theorem tk_cls {cs ws : List Int} {u : U} (h : Unit' cs ws u) : tk u.2.2.1 = tk (cs.getD u.1.toNat 0) := by
  rw [h.cls]
  split
  · rename_i hm; rw [mark_takes hm]; rfl
  · generalize cs.getD u.1.toNat 0 = c
    unfold cl
    split
    · rename_i h; rcases h with rfl | rfl | rfl | rfl <;> rfl
    · split
      · rename_i h; subst h; rfl
      · rfl

theorem chain_ok (cs ws : List Int) : ∀ k, k ≤ cs.length → ChainR cs ws (unitsR cs ws k) k
  | 0, _ => rfl
  | k + 1, hk => by
    have ih := chain_ok cs ws k (by omega)
    have fresh : ∀ R : List U, ChainR cs ws R k → (∀ v r', R = v :: r' → isM cs ws k = true → tk (cs.getD v.1.toNat 0) = false) →
        ChainR cs ws (((k : Int), (k : Int) + 1, if isM cs ws k then 1 else cl (cs.getD k 0), cs.getD k 0 == 4) :: R) ((k + 1 : Nat) : Int) := by
      intro R hR hv
      refine ⟨⟨by dsimp only; omega, by dsimp only; omega, by dsimp only; omega, by dsimp only; simp, ?_, fun j h1 h2 => by dsimp only at h1 h2; omega, fun h => by dsimp only at h; omega⟩, by dsimp only; omega, hR, ?_⟩
      · dsimp only
        rw [show ((k : Int) + 1 - 1).toNat = k by omega]
      · dsimp only
        rw [Int.toNat_natCast]
        exact hv
    unfold unitsR
    split
    · rename_i h
      rw [h] at ih
      exact fresh [] ih (fun v r' h => by cases h)
    · rename_i u r h
      rw [h] at ih
      split
      · rename_i hc
        simp only [Bool.and_eq_true] at hc
        obtain ⟨hu, h1, h2, h3⟩ := ih
        refine ⟨⟨hu.lo, ?_, by dsimp only; omega, hu.cls, ?_, fun j j1 j2 => ?_, fun _ => ?_⟩, by dsimp only; omega, h2, h3⟩
        · have := hu.lt; dsimp only; omega
        · dsimp only
          rw [show ((k : Int) + 1 - 1).toNat = k by omega]
        · dsimp only at j1 j2
          by_cases e : j = k
          · rw [e]; exact hc.1
          · exact hu.marks j j1 (by omega)
        · rw [← tk_cls hu]; exact hc.2
      · rename_i hc
        refine fresh (u :: r) ih (fun v r' e hm => ?_)
        cases e
        rw [hm, Bool.true_and] at hc
        rw [← tk_cls ih.1]
        simpa using hc

/-- the same, the first one first -/
def Chain (cs ws : List Int) : List U → Int → Prop
  | [], a => a = cs.length
  | u :: r, a => u.1 = a ∧ Unit' cs ws u ∧ (u.2.1 < cs.length → isM cs ws u.2.1.toNat = true → tk (cs.getD u.1.toNat 0) = false) ∧ Chain cs ws r u.2.1

theorem chain_rev (cs ws : List Int) : ∀ (R : List U) (n : Int) (l : List U), ChainR cs ws R n → Chain cs ws l n → (∀ v r', R = v :: r' → n < cs.length → isM cs ws n.toNat = true → tk (cs.getD v.1.toNat 0) = false) → Chain cs ws (R.reverse ++ l) 0
  | [], n, l, h, hl, _ => by
    have h : n = 0 := h
    subst h; exact hl
  | u :: r, n, l, h, hl, hb => by
    obtain ⟨hu, h1, h2, h3⟩ := h
    rw [List.reverse_cons, List.append_assoc]
    refine chain_rev cs ws r u.1 (u :: l) h2 ⟨rfl, hu, fun hlt hm => ?_, by rw [h1]; exact hl⟩ (fun v r' e _ hm => h3 v r' e hm)
    exact hb u r rfl (by omega) (by rw [← h1]; exact hm)

theorem chain_units (cs ws : List Int) : Chain cs ws (unitsR cs ws cs.length).reverse 0 := by
  have := chain_rev cs ws _ _ [] (chain_ok cs ws cs.length (Nat.le_refl _)) rfl (fun v r' _ h => by omega)
  rwa [List.append_nil] at this

theorem lboneUnits_F (ns ws : List Int) (h1 : ns.length ≤ 2097152) (w1 : ∀ n ∈ ns, 0 ≤ n ∧ n ≤ 255) : law19_LboneUnits_F ns ws = some true := by
  unfold law19_LboneUnits_F law19_LboneUnits_T
  generalize hc : (tab ns.length fun i => (ns.getD i 0) % 43) = cs
  have hcl : cs.length ≤ 2097152 := by rw [← hc, tab_len]; exact h1
  refine Post.run (Post.bnd awake19 (Post.brF rfl (Post.bnd (by rw [classes_F ns h1 w1, hc]) (Post.bnd (units_F cs ws (by omega)) ?_))))
  have hch := chain_units cs ws
  have hul := unitsR_len cs ws cs.length
  generalize hus : (unitsR cs ws cs.length).reverse = us at hch
  have husl : us.length ≤ cs.length := by rw [← hus]; simpa using hul
  refine Post.alt (R := fun r => r = .inl (cs, (cs.length : Int))) (loop_ex (L := fun s : List Int × List Int × Int × List U × Int × Int => law19_LboneUnits_L6 s.1 s.2.1 s.2.2.1 s.2.2.2.1 s.2.2.2.2.1 s.2.2.2.2.2)
    (fun s => ∃ (k : Nat) (a : Int), s = (ws, cs, a, us, (us.length : Int), (k : Int)) ∧ k ≤ us.length ∧ Chain cs ws (us.drop k) a) (fun s => us.length - s.2.2.2.2.2.toNat) ?_ ⟨0, 0, rfl, Nat.zero_le _, hch⟩) (fun b hb => ?_) (fun b hb => ?_)
  · rintro s ⟨k, a, rfl, hk, hd⟩
    dsimp only
    unfold law19_LboneUnits_L6
    refine Post.br (fun h => ?_) (fun h => Post.pure ?_)
    · have hkl : k < us.length := by simpa using h
      refine Post.idx (0, 0, 0, false) k rfl hkl ?_
      have hdr : us.drop k = us.getD k (0, 0, 0, false) :: us.drop (k + 1) := by
        rw [List.drop_eq_getElem_cons hkl]; simp [List.getD, hkl]
      rw [hdr] at hd
      generalize us.getD k (0, 0, 0, false) = u at hd
      obtain ⟨e1, hu, hb, hd'⟩ := hd
      have one : ∀ {α : Type} {f : U → Tr α} {Q : α → Prop}, Post (f u) Q → Post (.bnd (idx [u] 0) f) Q := fun {α f Q} h => Post.bnd (show idx [u] 0 = some u from rfl) h
      have lo := hu.lo
      have lt := hu.lt
      have le := hu.le
      have e0 : u.1 = ((u.1.toNat : Nat) : Int) := by omega
      have hf : u.1.toNat < cs.length := by omega
      have e2 : u.2.1 = ((u.2.1.toNat : Nat) : Int) := by omega
      have eM : ∀ f : Option Bool → Post (Tr.pure true) (· = true), True := fun _ => trivial
      have hmF : law19_mark_F cs ws u.1 = some (isM cs ws u.1.toNat) := by
        have := mark_F cs ws u.1.toNat hf
        rwa [← e0] at this
      have hwr : IntKind.i64.wrap (u.2.1 - 1) = ((u.2.1 - 1).toNat : Int) := by rw [wrap64 (by omega) (by omega)]; omega
      have hk1 : IntKind.i64.wrap ((k : Int) + 1) = ((k + 1 : Nat) : Int) := by rw [wrap64 (by omega) (by omega)]; omega
      -- the inner loop: marks alone
      have inner : loopW (fun s => (law19_LboneUnits_L16 s.1 s.2.1 s.2.2.1 s.2.2.2.1 s.2.2.2.2.1 s.2.2.2.2.2.1 s.2.2.2.2.2.2).run) (ws, cs, u, IntKind.i64.wrap (u.1 + 1), us, (us.length : Int), (k : Int)) = some (.inl (ws, cs, u, us, (us.length : Int), (k : Int))) := by
        refine count (L := fun s : List Int × List Int × U × Int × List U × Int × Int => law19_LboneUnits_L16 s.1 s.2.1 s.2.2.1 s.2.2.2.1 s.2.2.2.2.1 s.2.2.2.2.2.1 s.2.2.2.2.2.2) (u.2.1 - u.1 - 1).toNat (fun j => (ws, cs, u, u.1 + 1 + (j : Int), us, (us.length : Int), (k : Int))) ?_ (fun j hj => ?_) ?_
        · rw [wrap64 (by omega) (by omega)]; simp
        · dsimp only
          unfold law19_LboneUnits_L16
          have hm := hu.marks (u.1 + 1 + (j : Int)).toNat (by omega) (by omega)
          have hF := mark_F cs ws (u.1 + 1 + (j : Int)).toNat (by omega)
          rw [show (((u.1 + 1 + (j : Int)).toNat : Nat) : Int) = u.1 + 1 + (j : Int) by omega] at hF
          refine one (Post.brT (decide_eq_true (by omega)) (Post.bnd hF (Post.brF (by rw [hm]; rfl) (Post.pure ?_))))
          rw [wrap64 (by omega) (by omega), show u.1 + 1 + (j : Int) + 1 = u.1 + 1 + ((j + 1 : Nat) : Int) by omega]
        · dsimp only
          unfold law19_LboneUnits_L16
          exact one (Post.brF (decide_eq_false (by omega)) (Post.pure rfl))
      -- what stands behind the inner loop
      have apartF : law19_apart_F (cs.getD u.1.toNat 0) = some (!tk (cs.getD u.1.toNat 0)) := apart_F _
      have next : ∃ s', (Lap.next (ws, cs, u.2.1, us, (us.length : Int), ((k + 1 : Nat) : Int)) : Lap (List Int × List Int × Int × List U × Int × Int) (Sum (List Int × Int) Bool)) = .next s' ∧ (∃ (k : Nat) (a : Int), s' = (ws, cs, a, us, (us.length : Int), (k : Int)) ∧ k ≤ us.length ∧ Chain cs ws (us.drop k) a) ∧ us.length - s'.2.2.2.2.2.toNat < us.length - ((k : Int)).toNat :=
        ⟨_, rfl, ⟨k + 1, u.2.1, rfl, by omega, hd'⟩, by dsimp only; omega⟩
      have fin : ∀ {Q : Lap (List Int × List Int × Int × List U × Int × Int) (Sum (List Int × Int) Bool) → Prop}, Q (.next (ws, cs, u.2.1, us, (us.length : Int), ((k + 1 : Nat) : Int))) →
          Post (Tr.bnd (idx [u] 0) fun x => Tr.pure (Lap.next (ws, cs, x.2.1, us, (us.length : Int), IntKind.i64.wrap ((k : Int) + 1)))) Q := fun h => one (Post.pure (by rw [hk1]; exact h))
      have last : ∀ {Q : Lap (List Int × List Int × Int × List U × Int × Int) (Sum (List Int × Int) Bool) → Prop}, Q (.next (ws, cs, u.2.1, us, (us.length : Int), ((k + 1 : Nat) : Int))) →
          Post (Tr.bnd (idx [u] 0) fun x_26 => Tr.br (decide (x_26.2.1 < (cs.length : Int))) (Tr.bnd (idx [u] 0) fun x_27 => Tr.bnd (law19_mark_F cs ws x_27.2.1) fun c_28 => Tr.br c_28 (Tr.bnd (idx [u] 0) fun x_29 => Tr.bnd (idx cs x_29.1) fun x_30 => Tr.bnd (law19_apart_F x_30) fun c_31 => Tr.br (!c_31) (Tr.pure (.done (.inr false))) (Tr.bnd (idx [u] 0) fun x => Tr.pure (Lap.next (ws, cs, x.2.1, us, (us.length : Int), IntKind.i64.wrap ((k : Int) + 1))))) (Tr.bnd (idx [u] 0) fun x => Tr.pure (Lap.next (ws, cs, x.2.1, us, (us.length : Int), IntKind.i64.wrap ((k : Int) + 1))))) (Tr.bnd (idx [u] 0) fun x => Tr.pure (Lap.next (ws, cs, x.2.1, us, (us.length : Int), IntKind.i64.wrap ((k : Int) + 1))))) Q := by
        intro Q hQ
        refine one (Post.br (fun h => one ?_) (fun h => fin hQ))
        have h : u.2.1 < (cs.length : Int) := by simpa using h
        have hF := mark_F cs ws u.2.1.toNat (by omega)
        rw [← e2] at hF
        refine Post.bnd hF (Post.br (fun hm => one ?_) (fun hm => fin hQ))
        refine Post.idx 0 u.1.toNat e0 hf (Post.bnd apartF (Post.brF ?_ (fin hQ)))
        rw [hb h hm]; rfl
      have rest : ∀ {Q : Lap (List Int × List Int × Int × List U × Int × Int) (Sum (List Int × Int) Bool) → Prop}, Q (.next (ws, cs, u.2.1, us, (us.length : Int), ((k + 1 : Nat) : Int))) →
          Post (Tr.bnd (idx [u] 0) fun x_21 => Tr.bnd (idx [u] 0) fun x_22 => Tr.br (decide ((IntKind.i64.wrap (x_21.2.1 - x_22.1)) > 1)) (Tr.bnd (idx [u] 0) fun x_23 => Tr.bnd (idx cs x_23.1) fun x_24 => Tr.bnd (law19_apart_F x_24) fun c_25 => Tr.br c_25 (Tr.pure (.done (.inr false)))
            (Tr.bnd (idx [u] 0) fun x_26 => Tr.br (decide (x_26.2.1 < (cs.length : Int))) (Tr.bnd (idx [u] 0) fun x_27 => Tr.bnd (law19_mark_F cs ws x_27.2.1) fun c_28 => Tr.br c_28 (Tr.bnd (idx [u] 0) fun x_29 => Tr.bnd (idx cs x_29.1) fun x_30 => Tr.bnd (law19_apart_F x_30) fun c_31 => Tr.br (!c_31) (Tr.pure (.done (.inr false))) (Tr.bnd (idx [u] 0) fun x => Tr.pure (Lap.next (ws, cs, x.2.1, us, (us.length : Int), IntKind.i64.wrap ((k : Int) + 1))))) (Tr.bnd (idx [u] 0) fun x => Tr.pure (Lap.next (ws, cs, x.2.1, us, (us.length : Int), IntKind.i64.wrap ((k : Int) + 1))))) (Tr.bnd (idx [u] 0) fun x => Tr.pure (Lap.next (ws, cs, x.2.1, us, (us.length : Int), IntKind.i64.wrap ((k : Int) + 1))))))
            (Tr.bnd (idx [u] 0) fun x_26 => Tr.br (decide (x_26.2.1 < (cs.length : Int))) (Tr.bnd (idx [u] 0) fun x_27 => Tr.bnd (law19_mark_F cs ws x_27.2.1) fun c_28 => Tr.br c_28 (Tr.bnd (idx [u] 0) fun x_29 => Tr.bnd (idx cs x_29.1) fun x_30 => Tr.bnd (law19_apart_F x_30) fun c_31 => Tr.br (!c_31) (Tr.pure (.done (.inr false))) (Tr.bnd (idx [u] 0) fun x => Tr.pure (Lap.next (ws, cs, x.2.1, us, (us.length : Int), IntKind.i64.wrap ((k : Int) + 1))))) (Tr.bnd (idx [u] 0) fun x => Tr.pure (Lap.next (ws, cs, x.2.1, us, (us.length : Int), IntKind.i64.wrap ((k : Int) + 1))))) (Tr.bnd (idx [u] 0) fun x => Tr.pure (Lap.next (ws, cs, x.2.1, us, (us.length : Int), IntKind.i64.wrap ((k : Int) + 1)))))) Q := by
        intro Q hQ
        refine one (one (Post.br (fun h => one ?_) (fun h => last hQ)))
        rw [wrap64 (by omega) (by omega)] at h
        refine Post.idx 0 u.1.toNat e0 hf (Post.bnd apartF (Post.brF ?_ (last hQ)))
        rw [hu.takes (by simpa using h)]; rfl
      have hQ : (fun l : Lap (List Int × List Int × Int × List U × Int × Int) (Sum (List Int × Int) Bool) => match l with | .next s' => (∃ (k : Nat) (a : Int), s' = (ws, cs, a, us, (us.length : Int), (k : Int)) ∧ k ≤ us.length ∧ Chain cs ws (us.drop k) a) ∧ us.length - s'.2.2.2.2.2.toNat < us.length - ((k : Int)).toNat | .done r => r = .inl (cs, (cs.length : Int))) (.next (ws, cs, u.2.1, us, (us.length : Int), ((k + 1 : Nat) : Int))) :=
        ⟨⟨k + 1, u.2.1, rfl, by omega, hd'⟩, by dsimp only; omega⟩
      refine one (Post.brF (by simp [e1]) (one (Post.brF (decide_eq_false (by omega)) (one (Post.brF (decide_eq_false (by omega)) (one (Post.idx 0 u.1.toNat e0 hf (Post.bnd (lclass_F _) (one (Post.bnd hmF (Post.br (fun hm => one ?_) (fun hm => one ?_))))))))))))
      · have hcls := hu.cls
        rw [hm, if_pos rfl] at hcls
        refine Post.brF (by rw [hcls]; rfl) (one (one (Post.idx 0 _ hwr (by omega) (Post.brF ?_ (one (Post.altL inner (rest hQ)))))))
        rw [hu.joined]; simp
      · have hcls := hu.cls
        rw [hm, if_neg (by simp)] at hcls
        refine Post.brF (by rw [hcls]; simp) (one (one (Post.idx 0 _ hwr (by omega) (Post.brF ?_ (one (Post.altL inner (rest hQ)))))))
        rw [hu.joined]; simp
    · have : k = us.length := by simp at h; omega
      subst this
      rw [List.drop_length] at hd
      have hd : a = cs.length := hd
      rw [hd]
  · cases hb
    exact Post.pure (by simp)
  · cases hb

theorem lboneUnits_all (x : Tys.I [.sl (.int .u8), .sl (.int .i64)]) (h : WfAll [.sl (.int .u8), .sl (.int .i64)] x) (hb : bulkAll [.sl (.int .u8), .sl (.int .i64)] x ≤ 1048576) : law19_LboneUnits_F x.1 x.2.1 = some true := by
  simp only [bulkAll, bulk] at hb
  exact lboneUnits_F _ _ (by omega) (fun n hn => wf_u8 (h.1.2 n hn))

end Go.Proofs.Yteldfdpjgpjafaa
