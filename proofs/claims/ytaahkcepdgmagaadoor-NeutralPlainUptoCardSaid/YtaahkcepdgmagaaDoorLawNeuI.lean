/-
  One pair of brackets, as the program and as the reference resolves it.
-/
import Derived.Test.YtaahkcepdgmagaaDoorLawNeuH
namespace Go.Proofs.YtaahkcepdgmagaaDoor
set_option linter.all false

theorem pd_side' (f : Nat → Int) {sos : Int} (h : sos = 0 ∨ sos = 1) : ∀ k, pd f sos k = 0 ∨ pd f sos k = 1
  | 0 => h
  | k + 1 => by
    rw [pd]
    split
    · exact pd_side' f h k
    · have := dir_cases (f k); omega
theorem sid_e {c e : Int} (he : e = 0 ∨ e = 1) : sid c = e ↔ dir c = e := by
  unfold sid
  split <;> omega
theorem turns_both (ps : List (Int × Int)) (first out : List Int) (v : Int) (hv : 0 ≤ v ∧ v ≤ 22) {n : Nat} (hf : first.length = n) (ho : out.length = n) (hn : n ≤ 4194304) (sos own : Int) {k p q : Nat} (hk : k < ps.length) (hp : ps[k].1 = (p : Int)) (hq : ps[k].2 = (q : Int)) (hpn : p < n) (hqn : q < n) :
    ∃ a b : List Int, b.length = n ∧ (Cls out → Cls b) ∧ neutral_turn_F out first (p : Int) v = some (a, ()) ∧ neutral_turn_F a first (q : Int) v = some (b, ()) ∧
      loopW (fun s : List (List Int) × List Int × Int × List Int × Int × Int × Int × Int => (ref14_Brackets_L20 s.1 s.2.1 s.2.2.1 s.2.2.2.1 s.2.2.2.2.1 s.2.2.2.2.2.1 s.2.2.2.2.2.2.1 s.2.2.2.2.2.2.2).run) (ps.map two', first, sos, out, own, (k : Int), v, 0) = some (ps.map two', first, sos, b, own, (k : Int)) := by
  have hx : idx (ps.map two') (k : Int) = some (two' ps[k]) := by rw [idx_get (k := k) rfl (by rw [List.length_map]; exact hk), List.getElem_map]
  have hp0 : idx (two' ps[k]) 0 = some (p : Int) := by rw [← hp]; rfl
  have hp1 : idx (two' ps[k]) 1 = some (q : Int) := by rw [← hq]; rfl
  obtain ⟨a, hal, ca, ha, ha2⟩ := turn_both first out v hv hf ho hn (ps.map two') sos own (k : Int) 0 hpn
  obtain ⟨b, hbl, cb, hb, hb2⟩ := turn_both first a v hv hf hal hn (ps.map two') sos own (k : Int) 1 hqn
  have w0 : IntKind.i64.wrap ((0 : Int) + 1) = 1 := wrap64 (by omega) (by omega)
  have w1 : IntKind.i64.wrap ((1 : Int) + 1) = 2 := wrap64 (by omega) (by omega)
  refine ⟨a, b, hbl, fun h => cb (ca h), ha, hb, loopW_next (s' := (ps.map two', first, sos, a, own, (k : Int), v, 1)) (Post.run ?_) (loopW_next (s' := (ps.map two', first, sos, b, own, (k : Int), v, 2)) (Post.run ?_) (loopW_done (Post.run ?_)))⟩
  · dsimp only
    unfold ref14_Brackets_L20
    refine Post.brT rfl (Post.bnd hx (Post.bnd hp0 (Post.idx 0 p rfl (by omega) (Post.bnd hx (Post.bnd hp0 ?_)))))
    rw [wrap_succ (k := p) (by omega)]
    refine Post.bnd ha2 (Post.pure ?_)
    dsimp only
    rw [w0]
  · dsimp only
    unfold ref14_Brackets_L20
    refine Post.brT rfl (Post.bnd hx (Post.bnd hp1 (Post.idx 0 q rfl (by omega) (Post.bnd hx (Post.bnd hp1 ?_)))))
    rw [wrap_succ (k := q) (by omega)]
    refine Post.bnd hb2 (Post.pure ?_)
    dsimp only
    rw [w1]
  · dsimp only
    unfold ref14_Brackets_L20
    exact Post.brF rfl (Post.pure rfl)

end Go.Proofs.YtaahkcepdgmagaaDoor
