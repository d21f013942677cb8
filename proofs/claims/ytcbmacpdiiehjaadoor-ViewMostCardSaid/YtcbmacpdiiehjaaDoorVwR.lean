/-
  The reading of view.Row, and that its calls do what it says.
-/
import Derived.Test.YtcbmacpdiiehjaaDoorVwD
import Derived.Test.YtcbmacpdiiehjaaDoorEvMath
namespace Go.Proofs.YtcbmacpdiiehjaaDoor
set_option linter.all false
set_option maxRecDepth 100000

theorem blanks_eq (n : Nat) (hn : n ≤ 65536) : view_blanks_F n = some (List.replicate n ([32], -1, 0)) := by
  have h : Post (view_blanks_T n) (· = List.replicate n ([32], -1, 0)) := by
    refine Post.bnd (mk_eq rfl (by omega)) ?_
    rw [tab_rep, tab_rep]
    refine Post.bnd (count n (fun k => (tab n (part (fun _ => (([32], -1, 0) : Cl)) (fun _ => ([], 0, 0)) k), (n : Int), (k : Int))) (r := tab n (fun _ => (([32], -1, 0) : Cl))) ?_ (fun k hk => ?_) ?_) (Post.pure rfl)
    · simp [tab_len, part_zero]
    · refine Post.brT (by simpa using hk) (ptab k rfl hk (Post.pure ?_))
      dsimp only
      rw [wrap_succ (by omega), toNat_nat, part_set n rfl]
    · refine Post.brF (by simp) (Post.pure ?_)
      dsimp only
      rw [part_end]
  exact h.run

@[reducible] def rowPs : List Ty := [.sl (.int .i32), .sl (.int .i64), .int .i64, .int .i64]
@[reducible] def rowRs : List RTy := [.row 39 cT, .v (.err 48 36)]
noncomputable def view_Row_T0 (gs ws : List Int) (count : Int) : Tr (List Cl × Option (Int × ByteArray × Int)) :=
  .br (decide (count < 0)) (
    .bnd (api_Wrap_F 2 (ByteArray.mk #[99, 111, 117, 110, 116]) count) fun c_1 =>
    .pure ([], c_1)) (
    .br (decide (count > 65536)) (
      .bnd (api_Wrap_F 2 (ByteArray.mk #[99, 111, 117, 110, 116]) count) fun c_1 =>
      .pure ([], c_1)) (
      .br ((gs.length : Int) != (ws.length : Int)) (
        .bnd (api_Wrap_F 6 (ByteArray.mk #[103, 108, 121, 112, 104]) (gs.length : Int)) fun c_1 =>
        .pure ([], c_1)) (
        .bnd (view_blanks_F count) fun _ => .fail)))
noncomputable def view_Row_C : List (Nat × Callee) := [(11, .plain api_Wrap_fun), (12, .plain view_blanks_fun)]
theorem view_Row_ev (x : Tys.I rowPs) : evFun G0 (fun f => olook f view_Row_C) ⟨[], [], [], [], [], []⟩ (fun i => olook i ([] : List (Nat × LoopAnn))) Tryd.f8 rowPs rowRs x = view_Row_T0 x.1 x.2.1 x.2.2.2.1 := by kernel_rfl
theorem view_Row_ok0 : FunOk Tryd.prog 8 ⟨rowPs, rowRs, fun x => (view_Row_T0 x.1 x.2.1 x.2.2.2.1).run⟩ := evFun_ok mixed ctx0 (pc api_Wrap_ok (pc view_blanks_ok (no_calls))) Tryd.func8 (by kernel_rfl) _ (fun x => congrArg Tr.run (view_Row_ev x)) (by kernel_rfl) (by kernel_rfl)

noncomputable def view_Row_F (gs ws : List Int) (fr count : Int) : Option (List Cl × Option (Int × ByteArray × Int)) :=
  if count < 0 ∨ 65536 < count then some ([], some (2, ByteArray.mk #[99, 111, 117, 110, 116], count))
  else if gs.length ≠ ws.length then some ([], some (6, ByteArray.mk #[103, 108, 121, 112, 104], (gs.length : Int)))
  else if -4294967296 ≤ fr ∧ fr ≤ 4294967296 ∧ gs.length ≤ 4294967296 then some ((rowSt count.toNat fr gs ws gs.length).1, none)
  else none
noncomputable def view_Row_fun : Fun := ⟨[.sl (.int .i32), .sl (.int .i64), .int .i64, .int .i64], [.row 39 (.st (.pair (.sl (.int .i32)) (.pair (.int .i64) (.int .i64)))), .v (.err 48 36)], fun x => view_Row_F x.1 x.2.1 x.2.2.1 x.2.2.2.1⟩

theorem row_args {w : World} {k : IntKind} {xs : List Int} {v : Value} (h : RdV w (fun _ => False) (.sl (.int k)) xs v) : ∃ A cap, v = .slice A xs.length cap ∧
    ∀ (j : Nat) (g : Int), xs[j]? = some g → ∃ ad, A = some ad ∧ ad.block < w.heap.size ∧ w.cell? (ad.add j) = some (.int k g) := by
  obtain ⟨A, cap, e, _, _, h3⟩ := val_slice h
  refine ⟨A, cap, e, fun j g hj => ?_⟩
  obtain ⟨ad, e1, _, h4, us, h5, h6⟩ := h3 j g hj
  unfold Rd at h5
  subst h5
  refine ⟨ad, e1, h4, ?_⟩
  have := h6 0 _ rfl
  rwa [show (Ty.int k).size = 1 from rfl, Nat.mul_one, Nat.add_zero] at this
theorem int_args {w : World} {k : IntKind} {n : Int} {v : Value} (h : RdV w (fun _ => False) (.int k) n v) : v = .int k n := by
  obtain ⟨us, h1, h2⟩ := h
  unfold Rd at h1
  subst h1
  exact h2

theorem view_Row_ok : FunOk Tryd.prog 8 view_Row_fun := by
  refine ⟨view_Row_ok0.runs, fun x r hx w args hla hargs => ?_⟩
  obtain ⟨gs, ws, fr, count, u⟩ := x
  have hx : view_Row_F gs ws fr count = some r := hx
  unfold view_Row_F at hx
  have err : (view_Row_T0 gs ws count).run = some r → Calls Tryd.prog 8 args w fun e w' => ∃ v, e = .returned v ∧ Go.RowKit.Below w.heap.size w w' ∧ RetRd w.heap.size w' view_Row_fun.rs r v := fun h => view_Row_ok0.calls (gs, ws, fr, count, u) r h w args hla hargs
  split at hx
  · rename_i hc
    cases hx
    refine err (Post.run ?_)
    refine Post.br (fun _ => Post.bnd rfl (Post.pure rfl)) fun h1 => Post.brT ?_ (Post.bnd rfl (Post.pure rfl))
    simp only [decide_eq_false_iff_not] at h1
    simp only [decide_eq_true_eq]
    omega
  · rename_i hc
    split at hx
    · rename_i hl
      cases hx
      refine err (Post.run ?_)
      refine Post.brF (by simp; omega) (Post.brF (by simp; omega) (Post.brT ?_ (Post.bnd rfl (Post.pure rfl))))
      simp only [bne_iff_ne, ne_eq]
      omega
    · rename_i hl
      split at hx
      · rename_i hb
        cases hx
        obtain ⟨v0, a1, e0, h0, v1, a2, e1, h1, v2, a3, e2, h2, v3, a4, e3, h3, e4⟩ := hargs
        have e4 : a4 = [] := e4
        subst e4 e3 e2 e1
        have k2 : RdV w (fun _ => False) (.int .i64) fr v2 := h2
        have k3 : RdV w (fun _ => False) (.int .i64) count v3 := h3
        have := int_args k2
        subst this
        have := int_args k3
        subst this
        obtain ⟨A0, c0, rfl, g0⟩ := row_args (k := .i32) (xs := gs) h0
        obtain ⟨A1, c1, rfl, g1⟩ := row_args (k := .i64) (xs := ws) h1
        have hc0 : (0 : Int) ≤ count := by omega
        obtain ⟨n, rfl⟩ := Int.eq_ofNat_of_zero_le hc0
        have hn : n ≤ 65536 := by omega
        obtain ⟨l⟩ := args
        have e0 : l = _ := e0
        subst e0
        refine (row_main A0 A1 c0 c1 gs ws fr n w hla hn (by simpa using hl) hb.2.2 ⟨hb.1, hb.2.1⟩ (blanks_eq n hn) g0 g1).mono ?_
        rintro e w' ⟨rv, last, tv, rfl, hj⟩
        exact ⟨_, rfl, hj.below, hj.fin⟩
      · cases hx
end Go.Proofs.YtcbmacpdiiehjaaDoor
