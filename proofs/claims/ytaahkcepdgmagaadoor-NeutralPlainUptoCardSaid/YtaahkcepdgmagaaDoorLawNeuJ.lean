/-
  One pair of brackets, as the program and as the reference resolves it: the step.
-/
import Derived.Test.YtaahkcepdgmagaaDoorLawNeuI
namespace Go.Proofs.YtaahkcepdgmagaaDoor
set_option linter.all false

/-- hidden from omega -/
def Hid (p : Prop) : Prop := p
theorem step_both (first : List Int) (sos e : Int) (he : e = 0 ∨ e = 1) (hs : sos = 0 ∨ sos = 1) {n : Nat} (hf : first.length = n) (hn : n ≤ 4194304) {ps : List (Int × Int)} (hp : Prs n ps) {k : Nat} (hk : k < ps.length) (hkn : ps.length ≤ n) (out : List Int) (ho : out.length = n) :
    ∃ out', out'.length = n ∧ (Cls out → Cls out') ∧ (∀ l, emb l = e → Post (neutral_Brackets_L5 first l sos out ps (ps.length : Int) (k : Int)) (· = .next (first, l, sos, out', ps, (ps.length : Int), ((k + 1 : Nat) : Int)))) ∧
      Post (ref14_Brackets_L4 (ps.map two') first sos out e (k : Int)) (· = .next (ps.map two', first, sos, out', e, ((k + 1 : Nat) : Int))) := by
  have hq := hp ps[k] (List.getElem_mem hk)
  obtain ⟨p, e1⟩ : ∃ p : Nat, ps[k].1 = (p : Int) := ⟨ps[k].1.toNat, by omega⟩
  obtain ⟨q, e2⟩ : ∃ q : Nat, ps[k].2 = (q : Int) := ⟨ps[k].2.toNat, by omega⟩
  have hpq : p < q := by omega
  have hqn : q < n := by omega
  have hcut : cut out (IntKind.i64.wrap (ps[k].1 + 1)) ps[k].2 = some ((out.take q).drop (p + 1)) := cut_drop (by rw [wrap64 (by omega) (by omega)]; omega) (by omega) (by omega) (by omega)
  have hwl : ((out.take q).drop (p + 1)).length = q - (p + 1) := by rw [List.length_drop, List.length_take]; omega
  have hwg : ∀ j, j < q - (p + 1) → ((out.take q).drop (p + 1)).getD j 0 = out.getD (p + 1 + j) 0 := fun j hj => by
    simp only [List.getD, List.getElem?_drop, List.getElem?_take]
    rw [if_pos (by omega)]
  obtain ⟨v, hv, hc⟩ := inside_spec ((out.take q).drop (p + 1)) e he (by omega)
  rw [hwl] at hc
  have hx : idx ps (k : Int) = some ps[k] := idx_get rfl hk
  have hxm : idx (ps.map two') (k : Int) = some (two' ps[k]) := by rw [idx_get (k := k) rfl (by rw [List.length_map]; exact hk), List.getElem_map]
  have hp0 : idx (two' ps[k]) 0 = some (p : Int) := by rw [← e1]; rfl
  have hw : IntKind.i64.wrap ((k : Int) + 1) = ((k + 1 : Nat) : Int) := wrap_succ (by omega)
  have hwp : IntKind.i64.wrap ((p : Int) + 1) = ((p + 1 : Nat) : Int) := wrap_succ (by omega)
  obtain ⟨to, l8, h8⟩ := own_spec ps first out sos e ho hn (a := p + 1) (b := q) hk e2 (by omega) hqn
  obtain ⟨to2, l14, h14⟩ := other_spec ps first out sos e he ho hn (a := p + 1) (b := q) hk e2 e1 (by omega) (by omega) hqn
  replace h8 : Hid _ := h8
  replace h14 : Hid _ := h14
  have hsub : ∀ j, p + 1 ≤ j → j < q → ((out.take q).drop (p + 1)).getD (j - (p + 1)) 0 = out.getD j 0 := fun j j1 j2 => by
    rw [hwg _ (by omega), show p + 1 + (j - (p + 1)) = j by omega]
  rcases hc with ⟨rfl, j, hj, hd⟩ | ⟨rfl, hd⟩ | ⟨v1, v2, hne, j, hj, hd⟩
  · have hto : to = v := by
      rcases h8 with ⟨a, _⟩ | ⟨_, b⟩
      · exact a
      · exact absurd ((sid_e he).2 (by rw [← hwg j hj]; exact hd)) (b (p + 1 + j) (by omega) (by omega))
    obtain ⟨a, b, hb, cb, ta, tb, l20⟩ := turns_both ps first out v (by omega) hf ho hn sos v hk e1 e2 (by omega) hqn
    refine ⟨b, hb, cb, fun l hl => ?_, ?_⟩
    · unfold neutral_Brackets_L5
      rw [hw]
      refine Post.brT (decide_eq_true (by omega)) (Post.bnd hx (post_box (post_box (Post.bnd hcut (Post.bnd (level_F l) ?_)))))
      rw [hl]
      refine Post.bnd hv (Post.brF (by rw [beq_eq_false_iff_ne]; omega) (Post.bnd (level_F l) ?_))
      rw [hl]
      rw [← e1] at ta
      rw [← e2] at tb
      exact Post.brF (by simp) (post_box (Post.bnd ta (post_box (Post.bnd tb (Post.pure rfl)))))
    · unfold ref14_Brackets_L4
      refine Post.brT (decide_eq_true (by rw [List.length_map]; omega)) (Post.bnd hxm (Post.bnd hp0 ?_))
      rw [hwp]
      refine Post.bnd l8 (Post.brF (decide_eq_false (by dsimp only; omega)) (Post.brF (decide_eq_false (by dsimp only; omega)) ?_))
      dsimp only
      rw [hto]
      refine Post.bnd l20 (Post.pure ?_)
      dsimp only
      rw [hw]
  · have hto : to = -1 := by
      rcases h8 with ⟨_, j, j1, j2, j3⟩ | ⟨a, _⟩
      · have := hd (j - (p + 1)) (by omega)
        rw [hsub j j1 j2] at this
        have := (sid_e he).1 j3
        omega
      · exact a
    have hto2 : to2 = -1 := by
      rcases h14 with ⟨_, j, j1, j2, j3⟩ | ⟨a, _⟩
      · have := hd (j - (p + 1)) (by omega)
        rw [hsub j j1 j2] at this
        have := (sid_e (e := 1 - e) (by omega)).1 j3
        omega
      · exact a
    refine ⟨out, ho, id, fun l hl => ?_, ?_⟩
    · unfold neutral_Brackets_L5
      rw [hw]
      refine Post.brT (decide_eq_true (by omega)) (Post.bnd hx (post_box (post_box (Post.bnd hcut (Post.bnd (level_F l) ?_)))))
      rw [hl]
      exact Post.bnd hv (Post.brT (by simp) (Post.pure rfl))
    · unfold ref14_Brackets_L4
      refine Post.brT (decide_eq_true (by rw [List.length_map]; omega)) (Post.bnd hxm (Post.bnd hp0 ?_))
      rw [hwp]
      subst hto
      subst hto2
      refine Post.bnd l8 (Post.brT rfl (Post.bnd hxm (Post.bnd hp0 ?_)))
      rw [hwp]
      refine Post.bnd l14 (Post.brT rfl (Post.pure ?_))
      dsimp only
      rw [hw]
  · have hto : to = -1 := by
      rcases h8 with ⟨_, j, j1, j2, j3⟩ | ⟨a, _⟩
      · have := hne (j - (p + 1)) (by omega)
        rw [hsub j j1 j2] at this
        exact absurd ((sid_e he).1 j3) this
      · exact a
    have hve : v = 1 - e := by have := dir_cases (((out.take q).drop (p + 1)).getD j 0); omega
    have hto2 : to2 = pd (fn out) sos p := by
      rcases h14 with ⟨a, _⟩ | ⟨_, b⟩
      · exact a
      · exact absurd ((sid_e (e := 1 - e) (by omega)).2 (by rw [← hwg j hj, hd, hve])) (b (p + 1 + j) (by omega) (by omega))
    have hpd := pd_side' (fn out) hs p
    have hcut2 : cut out 0 ps[k].1 = some (out.take p) := cut_take (by omega) (by omega)
    have hu := before_take out sos (p := p) (by omega) (by omega)
    obtain ⟨a, b, hb, cb, ta, tb, l20⟩ := turns_both ps first out (pd (fn out) sos p) (by omega) hf ho hn sos e hk e1 e2 (by omega) hqn
    refine ⟨b, hb, cb, fun l hl => ?_, ?_⟩
    · unfold neutral_Brackets_L5
      rw [hw]
      refine Post.brT (decide_eq_true (by omega)) (Post.bnd hx (post_box (post_box (Post.bnd hcut (Post.bnd (level_F l) ?_)))))
      rw [hl]
      refine Post.bnd hv (Post.brF (by simpa using v2) (Post.bnd (level_F l) ?_))
      rw [hl]
      refine Post.brT (by simpa using v1) (post_box (Post.bnd hcut2 (Post.bnd hu ?_)))
      rw [← e1] at ta
      rw [← e2] at tb
      exact post_box (Post.bnd ta (post_box (Post.bnd tb (Post.pure rfl))))
    · unfold ref14_Brackets_L4
      refine Post.brT (decide_eq_true (by rw [List.length_map]; omega)) (Post.bnd hxm (Post.bnd hp0 ?_))
      rw [hwp]
      subst hto
      subst hto2
      refine Post.bnd l8 (Post.brT rfl (Post.bnd hxm (Post.bnd hp0 ?_)))
      rw [hwp]
      refine Post.bnd l14 (Post.brF (decide_eq_false (by dsimp only; omega)) (Post.bnd l20 (Post.pure ?_)))
      dsimp only
      rw [hw]

end Go.Proofs.YtaahkcepdgmagaaDoor
