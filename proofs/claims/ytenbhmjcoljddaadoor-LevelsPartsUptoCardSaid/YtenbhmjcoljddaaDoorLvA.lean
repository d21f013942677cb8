/-
  Levels without brackets; the document's examples; no level of a text is below its paragraph's.
-/
import Derived.Test.YtenbhmjcoljddaaDoorLvO
namespace Go.Proofs.YtenbhmjcoljddaaDoor
set_option linter.all false

/-- a sequence's classes, if no scalar of it is a bracket -/
def rsN (classes : List Int) (s : Sq) : List Int := rsB (wk classes s) s
def parN (cs : List Int) (l : Int) : List Int := fin cs (rsN (tab cs.length (Ex.cls cs l))) (sqs cs l) (tab cs.length (Ex.lvs cs l))
theorem fin_congr (cs : List Int) {f g : Sq → List Int} : ∀ (L : List Sq) (lv : List Int), (∀ s ∈ L, f s = g s) → fin cs f L lv = fin cs g L lv
  | [], _, _ => rfl
  | s :: r, lv, h => by
    unfold fin
    rw [h s List.mem_cons_self]
    exact fin_congr cs r _ fun s hs => h s (List.mem_cons_of_mem _ hs)
theorem par_plain (rs cs : List Int) {l : Int} (hl : 0 ≤ l ∧ l ≤ 1) (h : rs.length = cs.length) (hn : cs.length ≤ 2097152) (hb : ∀ x ∈ rs, Nu.brV x = (0, 0)) : par rs cs l = parN cs l := by
  unfold par parN
  refine fin_congr cs _ _ fun s hs => ?_
  obtain ⟨hg, _⟩ := sqs_good hl hn s hs
  unfold rsv rsN
  have : br (rn rs s.1) (rn (tab cs.length (Ex.cls cs l)) s.1) (wk (tab cs.length (Ex.cls cs l)) s) s.2.1 s.2.2.1 = wk (tab cs.length (Ex.cls cs l)) s := by
    have hb2 := brackets_none (rn rs s.1) (rn (tab cs.length (Ex.cls cs l)) s.1) (wk (tab cs.length (Ex.cls cs l)) s) s.2.1 s.2.2.1 (n := s.1.length) (rn_len _ _) (rn_len _ _) (tab_len _ _) hg.few (fun k hk => by
      unfold rn
      rw [tab_getD _ _ hk]
      obtain ⟨q, e, hq⟩ := hg.pl k hk
      rw [e, toNat_nat]
      have hq' : q < rs.length := by omega
      rw [show rs.getD q 0 = rs[q] by simp [List.getD, hq']]
      exact hb _ (List.getElem_mem hq'))
    unfold br
    rw [hb2]
    rfl
  rw [this]
/-- a text of one paragraph -/
theorem one_par {rs : List Int} (h0 : 0 < rs.length) (hc : ∀ k, k < rs.length → (cl4 rs).getD k 0 ≠ 10) {ps : List P3} (hp : Pa.Paras (fun i => rs.getD i 0) (fun i => (cl4 rs).getD i 0) rs.length 0 ps rs.length) : ps = [(0, (rs.length : Int), 0)] := by
  refine hp.det ⟨h0, .inr ⟨fun k _ hk => hc k hk, rfl⟩, rfl⟩
theorem of_plain (rs : List Int) (h0 : 0 < rs.length) (hn : rs.length ≤ 2097152) {d : Int} (hd : 0 ≤ d ∧ d ≤ 2) (hc : ∀ k, k < rs.length → (cl4 rs).getD k 0 ≠ 10) (hb : ∀ x ∈ rs, Nu.brV x = (0, 0)) :
    levels_Of_F rs d = some ((cl4 rs, parN (cl4 rs) (bs d (cl4 rs)), [(0, (rs.length : Int), 0)], [bs d (cl4 rs)]), none) := by
  obtain ⟨ps, hp, _, h⟩ := of_F rs hn hd
  rw [one_par h0 hc hp] at h
  have e1 : prt rs (0, (rs.length : Int), 0) = rs := by unfold prt; simp
  have e2 : prt (cl4 rs) (0, (rs.length : Int), 0) = cl4 rs := by unfold prt; simp [← cl4_len rs]
  rw [h]
  simp only [lvo, bso, List.map_cons, List.map_nil, List.flatten_cons, List.flatten_nil, List.append_nil, e1, e2]
  rw [par_plain rs (cl4 rs) (bs_two hd _) (cl4_len rs).symm (by rw [cl4_len]; exact hn) hb]

/-! ### the document's examples -/
theorem cl_1 : cl4 [97, 1488, 49] = [0, 1, 3] := by kernel_rfl
theorem cl_2 : cl4 [1488, 32, 97] = [1, 12, 0] := by kernel_rfl
theorem of_1 : levels_Of_F [97, 1488, 49] 0 = some (([0, 1, 3], [0, 1, 2], [(0, 3, 0)], [0]), none) := by
  have h := of_plain [97, 1488, 49] (d := 0) (by decide) (by decide) (by decide) (by rw [cl_1]; decide) (by decide +kernel)
  rw [cl_1] at h
  have e1 : bs 0 [0, 1, 3] = 0 := by decide +kernel
  have e2 : parN [0, 1, 3] 0 = [0, 1, 2] := by decide +kernel
  rw [e1, e2] at h
  exact h
theorem of_2 : levels_Of_F [1488, 32, 97] 0 = some (([1, 12, 0], [1, 1, 2], [(0, 3, 0)], [1]), none) := by
  have h := of_plain [1488, 32, 97] (d := 0) (by decide) (by decide) (by decide) (by rw [cl_2]; decide) (by decide +kernel)
  rw [cl_2] at h
  have e1 : bs 0 [1, 12, 0] = 1 := by decide +kernel
  have e2 : parN [1, 12, 0] 1 = [1, 1, 2] := by decide +kernel
  rw [e1, e2] at h
  exact h
theorem awake18 : law18_awake_F = some true := by
  unfold law18_awake_F law18_awake_T
  exact Post.run (Post.bnd of_1 (Post.bnd of_2 ⟨true, by rfl, rfl⟩))

end Go.Proofs.YtenbhmjcoljddaaDoor
