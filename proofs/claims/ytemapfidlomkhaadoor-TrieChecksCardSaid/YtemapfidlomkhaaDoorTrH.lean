/-
  TrieChecks holds: where the ranges are right by its reading, where they are wrong by a walk.
-/
import Derived.Test.YtemapfidlomkhaaDoorTrF
namespace Go.Proofs.YtemapfidlomkhaaDoor
set_option linter.all false
open Go.RowKit

@[reducible] def rsT : Ty := .sl (.st (.pair (.int .i32) (.pair (.int .i32) (.int .u8))))
theorem ret_b {B : Nat} {w : World} {b : Bool} {v : Value} (h : RetRd B w [.v .bool] b v) : v = .bool b := by
  obtain ⟨vs, hv, _, u, rfl, hu⟩ := h
  have hv : v = u := hv
  rw [hv]
  exact val_bool hu
theorem ret_ii {B : Nat} {w : World} {a b : Int} {v : Value} (h : RetRd B w [.v (.int .i64), .v (.int .i64)] (a, b) v) : v = .tuple #[.int .i64 a, .int .i64 b] := by
  obtain ⟨vs, hv, _, u, us, rfl, hu, u2, rfl, hu2⟩ := h
  obtain ⟨c1, k1, rfl⟩ := hu
  obtain ⟨c2, k2, rfl⟩ := hu2
  unfold Rd at k1 k2
  subst k1 k2
  exact hv
theorem ret_e {B : Nat} {w : World} {x : Int × ByteArray × Int} {v : Value} (h : RetRd B w [.v (.err 57 24)] (some x) v) : ∃ ad, v = .iface 57 (.pointer (some ad)) ∧ RdV w (fun _ => False) (.err 57 24) (some x) v := by
  obtain ⟨vs, hv, _, u, rfl, hu⟩ := h
  have hv : v = u := hv
  subst hv
  have hu : RdV w (fun _ => False) (.err 57 24) (some x) v := RdV.keep (Nat.le_refl _) (fun _ _ h => h.elim) (fun _ _ _ => rfl) hu
  obtain ⟨cs, h1, h2⟩ := id hu
  unfold Rd at h1
  obtain ⟨ad, e, _⟩ := h1
  subst e
  exact ⟨ad, h2, hu⟩
theorem rd_later {w w' : World} {t : Ty} {x : t.I} {v : Value} (h : RdV w (fun _ => False) t x v) (hb : Below w.heap.size w w') : RdV w' (fun _ => False) t x v :=
  h.keep hb.size (fun _ _ h => h) (fun b hlt _ => hb.block b hlt)

theorem build_err (v0 : Value) (rs : List Rg) (other : Int) (x : Int × ByteArray × Int) (w : World) (hla : Held w) (h0 : RdV w (fun _ => False) rsT rs v0) (hck : trie_Check_F rs = some (some x)) :
    Calls Tryd.prog 11 #[v0, .int .u8 other] w fun e w' => ∃ ve, e = .returned (.tuple #[.pointer none, ve]) ∧ Below w.heap.size w w' ∧ RdV w' (fun _ => False) (.err 57 24) (some x) ve := by
  go_enter Tryd.func11, Tryd.ntmps11
  go_wp2_with fail
  refine (trie_Check_ok.calls (rs, ()) _ hck w _ hla ⟨v0, [], rfl, h0, rfl⟩).mono ?_
  rintro e w1 ⟨v1, rfl, hb1, hr1⟩
  obtain ⟨ad, rfl, hrd⟩ := ret_e hr1
  clear hr1
  go_wp2_with fail
  go_ret2
  exact ⟨_, rfl, hb1, hrd⟩

theorem checks_walk (v0 : Value) (rs : List Rg) (other q1 q2 : Int) (w : World) (hla : Held w) (h0 : RdV w (fun _ => False) rsT rs v0) (hck : trie_Check_F rs = some (some (q2, rangeS, q1))) (hfi : law03_first_F rs = some (q1, q2))
    (htd : law02_Told_F (some (q2, rangeS, q1)) q2 rangeS q1 = some true) (hq20 : q2 ≠ 0) (hq10 : 0 ≤ q1) (hz : q1 = 0 ∨ 0 < q1) :
    Calls Tryd.prog 3 #[v0, .int .u8 other] w fun e w' => e = .returned (.bool true) ∧ Below w.heap.size w w' := by
  go_enter Tryd.func3, Tryd.ntmps3
  go_wp2_with fail
  refine (law03_awake_ok.calls () true awake_F w _ hla rfl).mono ?_
  rintro e w1 ⟨v1, rfl, hb1, hr1⟩
  obtain rfl := ret_b hr1
  clear hr1
  go_wp2_with fail
  have hla1 := held_below hla hb1
  have h01 := rd_later h0 hb1
  refine (law03_first_ok.calls (rs, ()) _ hfi w1 _ hla1 ⟨v0, [], rfl, h01, rfl⟩).mono ?_
  rintro e w2 ⟨v2, rfl, hb2, hr2⟩
  obtain rfl := ret_ii hr2
  clear hr2
  go_wp2_with fail
  have hla2 := held_below hla1 hb2
  have h02 := rd_later h01 hb2
  refine (trie_Check_ok.calls (rs, ()) _ hck w2 _ hla2 ⟨v0, [], rfl, h02, rfl⟩).mono ?_
  rintro e w3 ⟨v3, rfl, hb3, hr3⟩
  obtain ⟨ad3, rfl, hrd3⟩ := ret_e hr3
  clear hr3
  have hla3 := held_below hla2 hb3
  have h03 := rd_later h02 hb3
  have hB3 : Below w.heap.size w w3 := (hb1.trans (hb2.mono hb1.size)).trans (hb3.mono (Nat.le_trans hb1.size hb2.size))
  clear hb1 hb2 hb3 h02 h01 hla1 hla2 hla h0
  have arg : ∀ {w : World} {x : Int × ByteArray × Int} {a b : Int} {s : ByteArray} {v : Value}, RdV w (fun _ => False) (.err 57 24) (some x) v → ArgsRd w [.err 57 24, .int .i64, .str, .int .i64] (some x, a, s, b, ()) [v, .int .i64 a, .string s, .int .i64 b] := fun h => ⟨_, _, rfl, h, _, _, rfl, int_val _ _, _, _, rfl, ⟨_, by unfold Rd; rfl, rfl⟩, _, _, rfl, int_val _ _, rfl⟩
  rcases hz with rfl | hz
  all_goals
    go_wp2_with fail
    refine (law02_Told_ok.calls (some (q2, rangeS, _), q2, rangeS, _, ()) true htd w3 _ hla3 (arg hrd3)).mono ?_
    rintro e w4 ⟨v4, rfl, hb4, hr4⟩
    obtain rfl := ret_b hr4
    clear hr4
    have hla4 := held_below hla3 hb4
    have h04 := rd_later h03 hb4
    have hB4 := hB3.trans (hb4.mono hB3.size)
    go_wp2_with fail
    refine (build_err v0 rs other _ w4 hla4 h04 hck).mono ?_
    rintro e w5 ⟨v5, rfl, hb5, hrd5⟩
    have hla5 := held_below hla4 hb5
    have hB5 := hB4.trans (hb5.mono hB4.size)
    clear hla4 h04 hb4 hb5 hB4
    go_wp2_with fail
    refine (law02_Told_ok.calls (some (q2, rangeS, _), q2, rangeS, _, ()) true htd w5 _ hla5 (arg hrd5)).mono ?_
    rintro e w6 ⟨v6, rfl, hb6, hr6⟩
    obtain rfl := ret_b hr6
    clear hr6
    have hB6 := hB5.trans (hb6.mono hB5.size)
    clear hla5 hb6 hB5
    go_wp2_with fail
    go_ret
    exact ⟨by simp [hq20], hB6⟩

theorem checks_bad (v0 : Value) (rs : List Rg) (other : Int) (q : Int × Int) (w : World) (hla : Held w) (h0 : RdV w (fun _ => False) rsT rs v0) (hl : rs.length ≤ 9223372036854775807) (h32 : B32 rs) (hq : chk (-1) 0 rs = some q) :
    Calls Tryd.prog 3 #[v0, .int .u8 other] w fun e w' => e = .returned (.bool true) ∧ Below w.heap.size w w' := by
  have hck : trie_Check_F rs = some (some (q.2, rangeS, q.1)) := by rw [check_F hl, hq]; rfl
  have hfi : law03_first_F rs = some (q.1, q.2) := by rw [first_F hl h32, hq]
  obtain ⟨q1, q2⟩ := q
  dsimp only at hck hfi
  obtain ⟨hq1, hq2⟩ := chk_at hq
  dsimp only at hq1 hq2
  have htd : law02_Told_F (some (q2, rangeS, q1)) q2 rangeS q1 = some true := told_some (by omega) _ _
  have hq20 : q2 ≠ 0 := by omega
  clear hq
  obtain ⟨z, hz⟩ : ∃ z, z = q1 := ⟨_, rfl⟩
  have hz0 : z = 0 ∧ q1 = 0 ∨ 0 < q1 := by omega
  rcases hz0 with ⟨_, hz0⟩ | hz0
  · subst hz0
    exact checks_walk v0 rs other 0 q2 w hla h0 hck hfi htd hq20 (by omega) (.inl rfl)
  · exact checks_walk v0 rs other q1 q2 w hla h0 hck hfi htd hq20 (by omega) (.inr hz0)
open Classical in
noncomputable def checks_F (rs : List Rg) (other : Int) : Option Bool := if chk (-1) 0 rs = none then law03_TrieChecks_F rs other else if rs.length ≤ 9223372036854775807 ∧ B32 rs then some true else none
noncomputable def checks_fun : Fun := ⟨[rsT, .int .u8], [.v .bool], fun x => checks_F x.1 x.2.1⟩
theorem checks_ok : FunOk Tryd.prog 3 checks_fun := by
  refine ⟨law03_TrieChecks_ok.runs, fun x r hx w args hla hargs => ?_⟩
  obtain ⟨rs, other, u⟩ := x
  have hx : checks_F rs other = some r := hx
  unfold checks_F at hx
  split at hx
  · exact law03_TrieChecks_ok.calls (rs, other, u) r hx w args hla hargs
  · rename_i hc
    split at hx
    · rename_i hw
      have hx := Option.some.inj hx
      subst hx
      obtain ⟨v0, a1, e0, h0, v1, a2, e1, h1, e2⟩ := hargs
      have e2 : a2 = [] := e2
      subst e2 e1
      have h1 : RdV w (fun _ => False) (.int .u8) other v1 := h1
      have := int_args h1
      subst this
      obtain ⟨l⟩ := args
      have e0 : l = _ := e0
      subst e0
      obtain ⟨q, hq⟩ : ∃ q, chk (-1) 0 rs = some q := by
        cases h : chk (-1) 0 rs with
        | none => exact absurd h hc
        | some q => exact ⟨q, rfl⟩
      refine (checks_bad v0 rs other q w hla h0 hw.1 hw.2 hq).mono ?_
      rintro e w' ⟨rfl, hb⟩
      exact ⟨_, rfl, hb, [.bool true], rfl, List.nodup_nil, .bool true, rfl, bool_val _⟩
    · cases hx
theorem trieChecks_all (x : Tys.I [rsT, .int .u8]) (h : WfAll [rsT, .int .u8] x) : checks_F x.1 x.2.1 = some true := by
  obtain ⟨hl, h32⟩ := wf_rows h.1
  unfold checks_F
  split
  · rename_i hc
    have ho := chk_ok.1 hc
    have hck : trie_Check_F x.1 = some none := by rw [check_F hl, hc]; rfl
    have hfi : law03_first_F x.1 = some (-1, 0) := by rw [first_F hl h32, hc]
    have hb := build_F hl ho (fun y hy => (h32 y hy).2.2) (wf_u8 h.2.1)
    exact Post.run (t := law03_TrieChecks_T x.1 x.2.1) (Post.bnd awake_F (Post.brF rfl (Post.bnd hfi (Post.bnd hck (Post.bnd (told_none _ _) (Post.brF rfl (Post.bnd hb (Post.bnd (told_none _ _) (Post.brT rfl (Post.pure rfl))))))))))
  · rw [if_pos ⟨hl, h32⟩]
end Go.Proofs.YtemapfidlomkhaaDoor
