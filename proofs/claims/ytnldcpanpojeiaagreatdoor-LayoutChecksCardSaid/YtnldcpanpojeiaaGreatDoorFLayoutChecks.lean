/-
  The statement of LayoutChecks holds: where the listed variable is laid as the program lays it, its call returns true and leaves its arguments as they were.
-/
import Derived.Test.YtnldcpanpojeiaaGreatDoorLcI
import Derived.Test.YtnldcpanpojeiaaGreatDoorEvDoor
import Derived.Test.YtnldcpanpojeiaaGreatDoorEvTab
import Derived.Test.YtnldcpanpojeiaaGreatDoorRows
import Derived.Test.YtnldcpanpojeiaaGreatDoorTie
import Derived.Test.YtnldcpanpojeiaaGreatDoorCards
import Derived.LaidLaws
import Derived.LaidHandle
import Derived.Stop.Joined
import Derived.SevenTiedAt
namespace Go.Proofs.YtnldcpanpojeiaaGreatDoor
namespace layoutChecks
open Go.ChangeShapes Go.WideShapes Go.ChangeAt Go.RowKit
theorem own : ownKnob Tryz.prog.godebug = none := by kernel_rfl
theorem laidOut : laidOutB Tryz.prog = true := by kernel_rfl
def vars : List (String × DataW Unit) := [("boustrophedon/mirror.table", Rows.laid_boustrophedon_mirror_table), ("errors.errorType", Rows.laid_errors_errorType)]
theorem atB_inv {b : Nat} : ∀ {cs : List Value} {i j : Nat} {c : Nat × Nat × Value}, (atB b i cs)[j]? = some c → ∃ u, cs[j]? = some u ∧ c = (b, i + j, u)
  | [], _, _, _, h => by simp [atB] at h
  | x :: l, i, 0, c, h => by cases h; exact ⟨x, rfl, rfl⟩
  | x :: l, i, j + 1, c, h => by
    obtain ⟨u, h1, h2⟩ := atB_inv (cs := l) (i := i + 1) (j := j) h
    exact ⟨u, h1, by rw [h2, show i + 1 + j = i + (j + 1) by omega]⟩
theorem place0 : Tryz.prog.globalNamed "errors.errorType" = some 0 := by kernel_rfl
theorem place1 : Tryz.prog.globalNamed "boustrophedon/mirror.table" = some 1 := by kernel_rfl
theorem type1 : (Tryz.prog.globals[1]?).map (·.type) = some 228 := by kernel_rfl
theorem cells0 : gcells = some (flatP .i32 gtab) := by kernel_rfl
theorem laid0 : laidL = [.iface 138 (.agg #[.pointer (some ⟨2, 24, none⟩)])] := by kernel_rfl
theorem rtype : (Tryz.prog.cutTypes.find? (·.1 == "internal/reflectlite.rtype")).map (·.2) = some 138 := by kernel_rfl
theorem types : Tryz.prog.types.size = 287 := by kernel_rfl
theorem named : ((List.range 287).filter fun t => Tryz.prog.rowNamed t [101, 114, 114, 111, 114]) = [24] := by kernel_rfl
theorem held {W : World} (h : laidMetH Tryz.prog vars W) : Held W := fun i c hc => by
  have h' : laidMet Tryz.prog [("boustrophedon/mirror.table", Rows.laid_boustrophedon_mirror_table)] W ∧ handlesMet Tryz.prog [("errors.errorType", Rows.laid_errors_errorType)] W := h
  unfold heldCells at hc
  rw [laid0, cells0] at hc
  match i, hc with
  | 0, hc =>
    obtain ⟨name, u, ty, e1, e2, e3, e4, e5⟩ := h'.2 _ (List.mem_singleton.2 rfl)
    have en : name = [101, 114, 114, 111, 114] := (Option.some.inj e1).symm
    subst en
    obtain rfl := Option.some.inj (rtype.symm.trans e2)
    have hm : ty ∈ (List.range 287).filter fun t => Tryz.prog.rowNamed t [101, 114, 114, 111, 114] := List.mem_filter.2 ⟨List.mem_range.2 (by rw [← types]; exact e3), e4⟩
    rw [named] at hm
    obtain rfl := List.mem_singleton.1 hm
    have hh : typeHandle Tryz.prog 24 = .pointer (some ⟨2, 24, none⟩) := by kernel_rfl
    rw [hh] at e5
    cases hc
    simpa using World.var?_cell place0 e5 0
  | i + 1, hc =>
    have hc : (atB 1 0 (flatP .i32 gtab))[i]? = some c := hc
    obtain ⟨u, hu, rfl⟩ := atB_inv hc
    obtain ⟨ps, ⟨g, t, cs, fuel, p, q, e1, e2, e3, e4, _, _⟩, _, _⟩ := h'.1
    obtain rfl := Option.some.inj (place1.symm.trans e1)
    obtain rfl := Option.some.inj (type1.symm.trans e2)
    have hty : ∃ fs f0 f1, Tryz.prog.underlying 227 = some (.struct fs) ∧ fs.toList = [f0, f1] ∧ f0.offset = 0 ∧ f1.offset = 1 ∧ f0.type = 21 ∧ f1.type = 21 := ⟨_, _, _, Tryz.underlying227, rfl, rfl, rfl, rfl, rfl⟩
    obtain ⟨fs, f0, f1, u1, u2, u3, u4, u5, u6⟩ := hty
    have ht := trod_table (xs := gtab) (k := .i32) Tryz.underlying228 u1 u2 u3 u4 u5 u6 Tryz.underlying21 (by kernel_rfl) (by kernel_rfl) (by kernel_rfl) e4
    have := flatP_at (k := .i32) (cs := cs.toList) gtab 0 (fun j x hj => by rw [Nat.zero_add]; exact ht j x hj) i u hu
    dsimp only
    rw [Nat.zero_add, World.var?_cell place1 e3 i]
    simpa using this
noncomputable def start (os : Os) : World :=
  let w0 := World.holding Tryz.prog os ⟨#[], #[], []⟩
  { w0 with heap := (w0.heap.modify 0 fun
      | .cells _ t frozen => .cells #[.iface 138 (.agg #[.pointer (some ⟨2, 24, none⟩)])] t frozen
      | o => o).modify 1 fun
      | .cells _ t frozen => .cells (flatP .i32 gtab).toArray t frozen
      | o => o }
theorem start_met (os : Os) (args : Array Value) : laidMetH Tryz.prog vars ((start os).forCall (fun _ _ => 0) ⟨#[], args, []⟩).memory :=
  laidMetH_of_parts (laidMet_of_run' 8 (by kernel_rfl) (by kernel_rfl)) (by kernel_rfl)
set_option maxRecDepth 100000 in
theorem contract (H : Type) (enc : TypeId × Value → H) (W : World) (base : Nat) (args : Array Value) (ds gs : List (DataW H)) (before : List MemPlace) (hla : Held W)
    (hval : ∀ (j : Nat) t v, Tryz.f3.params[j]? = some t → args[j]? = some v → Value.okWide Tryz.prog W .any base t v)
    (hW : DataW.Whole enc Tryz.prog Tryz.f3.params.toList Rows.layoutChecksSpec.vars false W args.toList ds gs before) :
    Calls Tryz.prog 3 args W fun e W' => ∃ v, e = .returned v ∧ Rows.layoutChecksSpec.post enc Tryz.prog Tryz.f3 false true false false W args v W' :=
  law_contract ctx0 laidOut law30_LayoutChecks_ok (s := Rows.layoutChecksSpec) rfl (by kernel_rfl) (by kernel_rfl) (tb := 4) (by kernel_rfl) Tryz.underlying4 (fun ds h => match ds, h with | [_, _, _, _], _ => rfl) (N := Rows.uptoBulkAll (ds ++ gs)) (fun x hw _ => layoutChecks_all x hw) hla hval hW (Nat.le_refl _)
set_option maxRecDepth 100000 in
theorem lifted (os : Os) (started : os.Started) (H : Type) (enc : TypeId × Value → H) :
    ReturnsInHanded {} Tryz.checked os 3 .any (fun w args => (Rows.layoutChecksSpec.pre enc Tryz.prog Tryz.f3 [] false w args ∧ laidMetH Tryz.prog vars w) ∧ sizedMet enc Tryz.prog Tryz.f3 (OpenSpec.ofChange Rows.layoutChecksSpec) false w args)
      (Rows.layoutChecksSpec.post enc Tryz.prog Tryz.f3 false true false false) := by
  refine returnsInHanded_of_change_and (C := Tryz.checked) (X := fun w _ => laidMetH Tryz.prog vars w) (fun _ _ _ hh h => h.of_heap hh) own started (by kernel_rfl) Tryz.func3
    (ChangeSpec.witness_at (enc := enc) (C := Tryz.checked) (os := os) (X := fun w _ => laidMetH Tryz.prog vars w) false (start os) #[.int .i64 0, .int .i64 0, .int .u8 0, .string ByteArray.empty] 8 rfl (by kernel_rfl) (by kernel_rfl) (by kernel_rfl) (by kernel_rfl) (by kernel_rfl) (start_met os _)) ?_
  intro W base args ds gs before hval hW _ _ hL _
  exact contract H enc W base args ds gs before (held hL) hval hW
theorem over : Rows.layoutChecksRow.holds Tryz.pinned (OpenSpec.ofChange Rows.layoutChecksSpec) :=
  OpenClaim.holds_of_wide 3 Tryz.f3 rfl rfl rfl rfl rfl rfl rfl ⟨rfl, rfl, rfl, rfl, rfl⟩ rfl rfl rfl rfl rfl (by kernel_rfl) Tryz.func3 (by kernel_rfl)
    (of_decide_eq_true (by kernel_rfl)) (by unfold Func.isWrapper; first | (rw [if_pos (by decide +kernel)]; kernel_rfl) | (rw [if_neg (by decide +kernel)]; exact ⟨rfl, rfl⟩))
    (fun os started H enc _ => lifted os started H enc)
theorem proved : Rows.LayoutChecksCardSaid :=
  Claim7.holds_tied_plain_at .later [] [.data, .handle] true _ true over (fun _ h => by cases h) (by kernel_rfl) (fun _ h => by cases h) layoutChecks_row_tie rfl ⟨rfl, rfl⟩ (by kernel_rfl) rfl
    (fun f fn hf hfn => by
      obtain rfl : f = 3 := (Option.some.inj ((show Tryz.prog.funcNamed "boustrophedon/boustrophedonlaw30.LayoutChecks" = some 3 by kernel_rfl).symm.trans hf)).symm
      obtain rfl : fn = Tryz.f3 := (Option.some.inj (Tryz.func3.symm.trans hfn)).symm
      have hall : Tryz.f3.params.toList.all (fun t => !Tryz.prog.wantsStandIn t) = true := by kernel_rfl
      refine ⟨by kernel_rfl, fun j t ht => ?_⟩
      have hm : t ∈ Tryz.f3.params.toList := Array.mem_toList_iff.2 (Array.mem_of_getElem? ht)
      have hn : Tryz.prog.wantsStandIn t = false := by simpa using List.all_eq_true.1 hall t hm
      exact hn)
    (by kernel_rfl)
end layoutChecks
end Go.Proofs.YtnldcpanpojeiaaGreatDoor
