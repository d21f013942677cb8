/-
  The laws of sequences: one sequence alone.
-/
import Derived.Test.YtjiehphakabflaaLawSeqB
namespace Go.Proofs.Ytjiehphakabflaa
set_option linter.all false

/-- how many places ahead of one are not taken out -/
def kept (lv : Nat → Int) : Nat → Nat
  | 0 => 0
  | k + 1 => kept lv k + (if lv k ≠ -1 then 1 else 0)
theorem kept_succ (lv : Nat → Int) (k : Nat) : kept lv (k + 1) = kept lv k + (if lv k ≠ -1 then 1 else 0) := rfl
theorem kept_le (lv : Nat → Int) : ∀ k, kept lv k ≤ k
  | 0 => Nat.le_refl _
  | k + 1 => by
    have := kept_le lv k
    rw [kept_succ]
    split <;> omega
theorem kept_skip {lv : Nat → Int} {a : Nat} : ∀ {b : Nat}, a ≤ b → (∀ x, a ≤ x → x < b → lv x = -1) → kept lv b = kept lv a
  | 0, h, _ => by rw [show a = 0 by omega]
  | b + 1, h, hx => by
    by_cases e : a = b + 1
    · rw [e]
    · rw [kept_succ, if_neg (by rw [hx b (by omega) (by omega)]; simp), kept_skip (a := a) (b := b) (by omega) (fun x h1 h2 => hx x h1 (by omega)), Nat.add_zero]
theorem kept_chain {lv : Nat → Int} : ∀ {l : List Int} {a b : Nat}, Chain lv a l b → kept lv b = kept lv a + l.length
  | [], a, b, h => by rw [kept_skip h.1 h.2]; rfl
  | p :: r, a, b, h => by
    obtain ⟨q, _, h1, h2, h3, h4⟩ := h
    rw [kept_chain h4, kept_succ, if_pos h3, kept_skip h1 h2, List.length_cons]
    omega
def keepS (c : Int) : Bool := decide (c < 14)
theorem plain_two {cs : List Int} {v : Int} (h : ∀ c ∈ cs, c < 14) (k : Nat) : lvs cs v k = v ∨ lvs cs v k = -1 := by
  have hc : cs.getD k 0 < 14 := by
    by_cases hk : k < cs.length
    · exact h _ (getD_mem hk)
    · rw [getD_len (by omega)]; omega
  unfold lvs lv1
  rw [ms_plain h, ms_plain h]
  rw [if_neg (by omega), if_neg (iso_lt hc), if_neg (by omega), if_neg (by omega)]
  split
  · exact .inl rfl
  · split
    · exact .inr rfl
    · exact .inl rfl
theorem seqsSides_F (ns : List Int) (l : Int) (hn : ns.length ≤ 1048576) (h8 : ∀ n ∈ ns, 0 ≤ n ∧ n ≤ 255) (hl8 : 0 ≤ l ∧ l ≤ 255) : law13_SeqsSides_F ns l = some true := by
  obtain ⟨cs, hc, hlen, _, hr⟩ := classes_F ns (by omega) h8
  obtain ⟨v, he, hv⟩ := lev2 hl8
  unfold law13_SeqsSides_F law13_SeqsSides_T
  refine Post.run (Post.bnd awake13 (Post.brF rfl (Post.bnd hc (Post.bnd (count (L := fun s : Int × List Int × List Int × Int × Int => law13_SeqsSides_L5 s.1 s.2.1 s.2.2.1 s.2.2.2.1 s.2.2.2.2) cs.length (fun k => (l, (cs.take k).filter keepS, cs, (cs.length : Int), ((k : Nat) : Int))) (r := (l, cs.filter keepS)) rfl (fun k hk => ?_) ?_) ?_))))
  · dsimp only
    unfold law13_SeqsSides_L5
    have hfl := flt_len keepS cs k
    rw [flt_take keepS cs hk, wrap_succ (by omega)]
    refine Post.brT (decide_eq_true (by omega)) (Post.idx 0 k rfl hk (Post.br (fun h => ?_) (fun h => Post.pure ?_)))
    · refine Post.bnd (app_eq (by simp only [List.length_cons, List.length_nil]; omega)) (Post.pure ?_)
      rw [if_pos (show keepS (cs.getD k 0) = true from h)]
    · rw [if_neg (show ¬ keepS (cs.getD k 0) = true by unfold keepS; rw [h]; simp), List.append_nil]
  · dsimp only
    unfold law13_SeqsSides_L5
    rw [List.take_of_length_le (Nat.le_refl _)]
    exact Post.brF (decide_eq_false (by omega)) (Post.pure rfl)
  dsimp only
  have hfl : (cs.filter keepS).length ≤ cs.length := List.length_filter_le _ _
  have hp : ∀ c ∈ cs.filter keepS, c < 14 := fun c hc => by
    have := (List.mem_filter.1 hc).2
    unfold keepS at this
    simpa using this
  generalize cs.filter keepS = ds at hfl hp
  rw [he]
  have two := plain_two (v := v) hp
  have ok : (Pg.mk (lvs ds v) ds.length ds v).Ok := ⟨by show ds.length ≤ _; omega, rfl, fun i => by
    show lvs ds v i ≠ -5
    rcases two i with h | h <;> rw [h] <;> omega⟩
  have hsq := seqs_F ok
  have hR1 : (Pg.mk (lvs ds v) ds.length ds v).R ≤ 1 := by
    have ha := (runsOf_good (lvs ds v) ok.far ds.length).2
    show (runsOf (lvs ds v) ds.length).length ≤ 1
    match hrs : runsOf (lvs ds v) ds.length, ha with
    | [], _ => simp
    | [_], _ => simp
    | r0 :: r1 :: rs, ha =>
      exfalso
      obtain ⟨p0, t0, h0, _, _, p1, t1, h1, h2, _, _⟩ := ha
      have hR : (Pg.mk (lvs ds v) ds.length ds v).R = (r0 :: r1 :: rs).length := congrArg List.length hrs
      have g : ∀ k, k < 2 → lvs ds v (fs (r0 :: r1 :: rs) k) = v := fun k hk => by
        have := (ok.run (k := k) (by rw [hR]; simp only [List.length_cons]; omega)).gf
        have hrs' : (Pg.mk (lvs ds v) ds.length ds v).rs = r0 :: r1 :: rs := hrs
        rw [hrs'] at this
        rcases two (fs (r0 :: r1 :: rs) k) with h | h
        · exact h
        · exact absurd h this
      have g0 := g 0 (by omega)
      have g1 := g 1 (by omega)
      subst h0 h1
      exact h2 (g1.trans g0.symm)
  have hk := kept_chain (runsOf_good (lvs ds v) ok.far ds.length).1
  have hkl := kept_le (lvs ds v) ds.length
  rw [show kept (lvs ds v) 0 = 0 from rfl, Nat.zero_add] at hk
  refine Post.bnd (resolve_F ds hv (by omega)) (Post.bnd hsq (Post.bnd (count (L := fun s : Int × (List Sq) × Int × List Int × Int × Int => law13_SeqsSides_L15 s.1 s.2.1 s.2.2.1 s.2.2.2.1 s.2.2.2.2.1 s.2.2.2.2.2) ds.length
    (fun k => (v, ((Pg.mk (lvs ds v) ds.length ds v).Sp (Pg.mk (lvs ds v) ds.length ds v).R).2, ((kept (lvs ds v) k : Nat) : Int), tab ds.length (lvs ds v), (ds.length : Int), ((k : Nat) : Int))) (r := (v, ((Pg.mk (lvs ds v) ds.length ds v).Sp (Pg.mk (lvs ds v) ds.length ds v).R).2, ((kept (lvs ds v) ds.length : Nat) : Int))) ?_ (fun k hk => ?_) ?_) ?_))
  · dsimp only
    rw [tab_len]
    rfl
  · dsimp only
    unfold law13_SeqsSides_L15
    have := kept_le (lvs ds v) k
    rw [wrap_succ (k := k) (by omega)]
    refine Post.brT (decide_eq_true (by omega)) (ptab k rfl hk (Post.br (fun c => Post.pure ?_) (fun c => Post.pure ?_)))
    · rw [wrap_succ (k := kept (lvs ds v) k) (by omega), show kept (lvs ds v) k + 1 = kept (lvs ds v) (k + 1) by rw [kept_succ, if_pos (show lvs ds v k ≠ -1 by simpa using c)]]
    · have c2 : ¬ lvs ds v k ≠ -1 := by simpa using c
      have : kept (lvs ds v) (k + 1) = kept (lvs ds v) k := by rw [kept_succ, if_neg c2, Nat.add_zero]
      rw [this]
  · dsimp only
    unfold law13_SeqsSides_L15
    exact Post.brF (decide_eq_false (by omega)) (Post.pure rfl)
  · dsimp only
    have hrs : ∀ {rs}, runsOf (lvs ds v) ds.length = rs → rs.length ≤ 1 := fun h => h ▸ hR1
    by_cases e0 : (Pg.mk (lvs ds v) ds.length ds v).R = 0
    · have en : runsOf (lvs ds v) ds.length = [] := List.eq_nil_of_length_eq_zero e0
      rw [en] at hk
      rw [e0, hk]
      exact Post.brT rfl (Post.pure rfl)
    · have e1 : (Pg.mk (lvs ds v) ds.length ds v).R = 1 := by omega
      have r := ok.run (k := 0) (by omega)
      have hiso : (Pg.mk (lvs ds v) ds.length ds v).iso 0 = false := by
        have hc : ds.getD (ls (Pg.mk (lvs ds v) ds.length ds v).rs 0) 0 < 14 := hp _ (getD_mem r.hi)
        have := iso_lt hc
        show iso (ds.getD (ls (Pg.mk (lvs ds v) ds.length ds v).rs 0) 0) = false
        simpa using this
      have hnx : (Pg.mk (lvs ds v) ds.length ds v).nx 0 = -1 := by
        unfold Pg.nx
        rw [if_neg (by rw [hiso]; simp)]
      have hC : (Pg.mk (lvs ds v) ds.length ds v).C 0 = [] := Pg.T_end hnx
      have hl0 : (Pg.mk (lvs ds v) ds.length ds v).lvl 0 = v := by
        rcases two (fs (Pg.mk (lvs ds v) ds.length ds v).rs 0) with h | h
        · exact h
        · exact absurd h r.gf
      have hb0 : (Pg.mk (lvs ds v) ds.length ds v).bef 0 = v := rfl
      have ha0 : (Pg.mk (lvs ds v) ds.length ds v).aft 0 = v := by
        unfold Pg.aft
        rw [if_neg (by rw [hiso]; simp)]
        unfold Pg.beh
        rw [if_pos (by omega)]
      have hsq0 : (Pg.mk (lvs ds v) ds.length ds v).sq 0 = ((Pg.mk (lvs ds v) ds.length ds v).rs.getD 0 [], v, Pg.cl v, Pg.cl v) := by
        unfold Pg.sq
        rw [hC, hl0, hb0, show ([] : List Nat).getLastD 0 = 0 from rfl, ha0, if_neg (by omega), Pg.cat_cons, show (Pg.mk (lvs ds v) ds.length ds v).cat [] = [] from rfl, List.append_nil]
      have hSp : ((Pg.mk (lvs ds v) ds.length ds v).Sp 1).2 = [(Pg.mk (lvs ds v) ds.length ds v).sq 0] := by
        rw [Pg.Sp_succ]
        have : ((Pg.mk (lvs ds v) ds.length ds v).Sp 0).1.getD 0 false = false := by
          show (List.replicate (Pg.mk (lvs ds v) ds.length ds v).R false).getD 0 false = false
          rw [e1]; rfl
        rw [if_neg (by rw [this]; simp)]
        rfl
      have hkl2 : kept (lvs ds v) ds.length = ((Pg.mk (lvs ds v) ds.length ds v).rs.getD 0 []).length := by
        rw [hk]
        show (runsOf (lvs ds v) ds.length).flatten.length = ((runsOf (lvs ds v) ds.length).getD 0 []).length
        have e1' : (runsOf (lvs ds v) ds.length).length = 1 := e1
        match runsOf (lvs ds v) ds.length, e1' with
        | [r], _ => simp
      have hpos := r.pos
      rw [e1, hSp, hsq0, hkl2]
      generalize (Pg.mk (lvs ds v) ds.length ds v).rs.getD 0 [] = rr at hpos
      have i0 : ∀ {x : Sq}, idx [x] 0 = some x := fun {x} => rfl
      refine Post.brF ?_ (Post.brT rfl (Post.bnd i0 (Post.brT (by simp) (Post.bnd i0 (Post.bnd (cls_F v) (Post.brT (by simp) (Post.bnd i0 (Post.bnd (cls_F v) (Post.pure (by simp))))))))))
      simp only [beq_eq_false_iff_ne, ne_eq]
      omega

theorem seqsSides_all (x : Tys.I [.sl (.int .u8), .int .u8]) (h : WfAll [.sl (.int .u8), .int .u8] x) (hb : bulkAll [.sl (.int .u8), .int .u8] x ≤ 1048576) : law13_SeqsSides_F x.1 x.2.1 = some true := by
  simp only [bulkAll, bulk] at hb
  exact seqsSides_F _ _ (by omega) (fun n hn => wf_u8 (h.1.2 n hn)) (wf_u8 h.2.1)

end Go.Proofs.Ytjiehphakabflaa
