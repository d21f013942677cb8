/-
  The levels of a text, paragraph by paragraph.
-/
import Derived.Test.YtenbhmjcoljddaaDoorLvM
import Derived.Test.YtenbhmjcoljddaaDoorLvB
import Derived.Test.YtenbhmjcoljddaaDoorLvP
import Derived.Test.YtenbhmjcoljddaaDoorLvQ
namespace Go.Proofs.YtenbhmjcoljddaaDoor
set_option linter.all false
abbrev P3 := Int × Int × Int
abbrev Tx := List Int × List Int × List P3 × List Int

/-- each scalar's class -/
noncomputable def cl4 (rs : List Int) : List Int := tab rs.length fun i => Bd.finds Bd.bidicT (rs.getD i 0) 0
theorem cl4_len (rs : List Int) : (cl4 rs).length = rs.length := tab_len _ _
/-- a paragraph's level -/
def bs (d : Int) (part : List Int) : Int := if d = 0 then Ex.first false 0 part 0 else d - 1
theorem bs_F (part : List Int) (hn : part.length ≤ 4194304) {d : Int} (hd : 0 ≤ d ∧ d ≤ 2) : base_Level_F part d = some (bs d part, none) := by
  rw [Ex.level_F part hn d]
  unfold bs
  have : d = 0 ∨ d = 1 ∨ d = 2 := by omega
  rcases this with rfl | rfl | rfl <;> rfl
theorem bs_two {d : Int} (hd : 0 ≤ d ∧ d ≤ 2) (part : List Int) : 0 ≤ bs d part ∧ bs d part ≤ 1 := by
  unfold bs
  split
  · rcases Ex.first_two false part 0 with h | h <;> omega
  · omega
def prt (xs : List Int) (p : P3) : List Int := (xs.take p.2.1.toNat).drop p.1.toNat
noncomputable def lvo (rs cs : List Int) (d : Int) (l : List P3) : List Int := (l.map fun p => par (prt rs p) (prt cs p) (bs d (prt cs p))).flatten
def bso (cs : List Int) (d : Int) (l : List P3) : List Int := l.map fun p => bs d (prt cs p)
theorem prt_len {xs : List Int} {a b : Nat} (h : a ≤ b) (hb : b ≤ xs.length) (q : Int) : (prt xs ((a : Int), (b : Int), q)).length = b - a := by
  unfold prt
  rw [List.length_drop, List.length_take, toNat_nat, toNat_nat]
  omega
theorem prt_cut {xs : List Int} {p : P3} {a b : Nat} (h1 : p.1 = (a : Int)) (h2 : p.2.1 = (b : Int)) (h : a ≤ b) (hb : b ≤ xs.length) : cut xs p.1 p.2.1 = some (prt xs p) := by
  rw [cut_drop h1 h2 h hb]
  unfold prt
  rw [h1, h2, toNat_nat, toNat_nat]

theorem of_loop (rs cs : List Int) {n : Nat} (h1 : rs.length = n) (h2 : cs.length = n) (hn : n ≤ 2097152) {d : Int} (hd : 0 ≤ d ∧ d ≤ 2) (z : Tx) (ps : List P3) (hps : ps.length ≤ n) {r c : Nat → Int} : ∀ (j k a : Nat) (Lv Bs : List Int), ps.length = k + j → Pa.Paras r c n a (ps.drop k) n → Lv.length = a → Bs.length = k →
    loopW (fun s : List Int × Int × Tx × Tx × Int × Int => (levels_Of_L7 s.1 s.2.1 s.2.2.1 s.2.2.2.1 s.2.2.2.2.1 s.2.2.2.2.2).run) (rs, d, z, (cs, Lv, ps, Bs), (ps.length : Int), (k : Int)) = some (.inl (z, (cs, Lv ++ lvo rs cs d (ps.drop k), ps, Bs ++ bso cs d (ps.drop k))))
  | 0, k, a, Lv, Bs, hj, hp, hL, hB => by
    rw [List.drop_of_length_le (by omega)]
    refine loopW_done (Post.run ?_)
    dsimp only
    unfold levels_Of_L7
    refine Post.brF (by rw [decide_eq_false_iff_not]; omega) (Post.pure ?_)
    simp [lvo, bso]
  | j + 1, k, a, Lv, Bs, hj, hp, hL, hB => by
    have hk : k < ps.length := by omega
    rw [List.drop_eq_getElem_cons hk] at hp ⊢
    obtain ⟨han, hnx, hrest⟩ := hp
    obtain ⟨b, e2, hab, hbn, e1⟩ := hnx.to_ han
    generalize hpk : ps[k] = p at *
    have hb := bs_two hd (prt cs p)
    have hl1 : (prt rs p).length = b - a := by rw [show p = ((a : Int), (b : Int), p.2.2) by rw [← e1, ← e2]]; exact prt_len (by omega) (by omega) _
    have hl2 : (prt cs p).length = b - a := by rw [show p = ((a : Int), (b : Int), p.2.2) by rw [← e1, ← e2]]; exact prt_len (by omega) (by omega) _
    have hpl : (par (prt rs p) (prt cs p) (bs d (prt cs p))).length = b - a := by rw [par_len]; exact hl2
    refine loopW_next (s' := (rs, d, z, (cs, Lv ++ par (prt rs p) (prt cs p) (bs d (prt cs p)), ps, Bs ++ [bs d (prt cs p)]), (ps.length : Int), ((k + 1 : Nat) : Int))) (Post.run ?_) ?_
    · dsimp only
      unfold levels_Of_L7
      refine Post.brT (by rw [decide_eq_true_eq]; omega) (Post.bnd (idx_get (k := k) rfl hk) ?_)
      rw [hpk]
      have c1 := prt_cut (xs := cs) e1 e2 (by omega) (by omega)
      have c2 := prt_cut (xs := rs) e1 e2 (by omega) (by omega)
      have c3 := bs_F (prt cs p) (by omega) hd
      have c4 := paragraph_F (prt rs p) (prt cs p) hb (by omega) (by omega)
      have c5 : app 17592186044416 Bs [bs d (prt cs p)] = some (Bs ++ [bs d (prt cs p)]) := app_eq (by simp only [List.length_singleton]; omega)
      have c6 : app 17592186044416 Lv (par (prt rs p) (prt cs p) (bs d (prt cs p))) = some (Lv ++ par (prt rs p) (prt cs p) (bs d (prt cs p))) := app_eq (by omega)
      refine Nu.post_box (Nu.post_box (Post.bnd c1 (Post.bnd c3 (Post.brF rfl (Post.bnd c5 (Nu.post_box (Nu.post_box (Post.bnd c2 (Nu.post_box (Nu.post_box (Post.bnd c1 (Post.bnd c4 (Post.bnd c6 (Post.pure ?_))))))))))))))
      dsimp only
      rw [wrap_succ (by omega)]
    · have ih := of_loop rs cs h1 h2 hn hd z ps hps j (k + 1) b (Lv ++ par (prt rs p) (prt cs p) (bs d (prt cs p))) (Bs ++ [bs d (prt cs p)]) (by omega) (by rw [e2] at hrest; exact hrest) (by rw [List.length_append, hpl]; omega) (by rw [List.length_append, List.length_singleton]; omega)
      rw [ih]
      simp only [lvo, bso, List.map_cons, List.flatten_cons, List.append_assoc, List.singleton_append]
/-- the levels of any text, in any direction that there is -/
theorem of_F (rs : List Int) (hn : rs.length ≤ 2097152) {d : Int} (hd : 0 ≤ d ∧ d ≤ 2) : ∃ ps, Pa.Paras (fun i => rs.getD i 0) (fun i => (cl4 rs).getD i 0) rs.length 0 ps rs.length ∧ ps.length ≤ rs.length ∧
    levels_Of_F rs d = some ((cl4 rs, lvo rs (cl4 rs) d ps, ps, bso (cl4 rs) d ps), none) := by
  obtain ⟨ps, hps, hp⟩ := Pa.split_F rs (cl4 rs) (by rw [cl4_len]; omega)
  rw [cl4_len, Nat.min_self] at hp
  have hle := hp.len
  refine ⟨ps, hp, by omega, ?_⟩
  unfold levels_Of_F levels_Of_T
  refine Post.run (Post.bnd (bs_F [] (by decide) hd) (Post.brF rfl (Post.bnd (Bd.bidic_of rs (by omega)) (Post.bnd hps (Post.altL (of_loop rs (cl4 rs) rfl (cl4_len rs) hn hd ([], [], [], []) ps (by omega) ps.length 0 0 [] [] (by omega) hp rfl rfl) (Post.pure ?_))))))
  simp

end Go.Proofs.YtenbhmjcoljddaaDoor
