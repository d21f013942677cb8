/-
  The statement of LevelsParts holds: where the listed variable is laid as the program lays it, its call returns true and leaves its arguments as they were, where what it reads is of bulk at most 1048576.
-/
import Derived.Test.YtenbhmjcoljddaaDoorLvPt
import Derived.Test.YtenbhmjcoljddaaDoorEvDoor
import Derived.Test.YtenbhmjcoljddaaDoorEvTab
import Derived.Test.YtenbhmjcoljddaaDoorRows
import Derived.Test.YtenbhmjcoljddaaDoorTie
import Derived.Test.YtenbhmjcoljddaaDoorCards
import Derived.LaidLaws
import Derived.LaidHandle
import Derived.Stop.Joined
import Derived.SevenTiedAt
namespace Go.Proofs.YtenbhmjcoljddaaDoor
namespace levelsParts
open Go.ChangeShapes Go.WideShapes Go.ChangeAt Go.RowKit
theorem own : ownKnob Tryd.prog.godebug = none := by kernel_rfl
theorem laidOut : laidOutB Tryd.prog = true := by kernel_rfl
def vars : List (String × DataW Unit) := [("boustrophedon/mirror.table", Rows.laid_boustrophedon_mirror_table)]
theorem place0 : Tryd.prog.globalNamed "boustrophedon/mirror.table" = some 0 := by kernel_rfl
theorem type0 : (Tryd.prog.globals[0]?).map (·.type) = some 129 := by kernel_rfl
theorem cells0 : heldCells = flatP .i32 gtab := by kernel_rfl
theorem held {W : World} (h : laidMetH Tryd.prog vars W) : Held W := fun i c hc => by
  have h' : laidMet Tryd.prog vars W := h
  obtain ⟨ps, ⟨g, t, cs, fuel, p, q, e1, e2, e3, e4, _, _⟩, _, _⟩ := h'
  obtain rfl := Option.some.inj (place0.symm.trans e1)
  obtain rfl := Option.some.inj (type0.symm.trans e2)
  have hu : ∃ fs f0 f1, Tryd.prog.underlying 128 = some (.struct fs) ∧ fs.toList = [f0, f1] ∧ f0.offset = 0 ∧ f1.offset = 1 ∧ f0.type = 21 ∧ f1.type = 21 := ⟨_, _, _, Tryd.underlying128, rfl, rfl, rfl, rfl, rfl⟩
  obtain ⟨fs, f0, f1, u1, u2, u3, u4, u5, u6⟩ := hu
  have ht := trod_table (xs := gtab) (k := .i32) Tryd.underlying129 u1 u2 u3 u4 u5 u6 Tryd.underlying21 (by kernel_rfl) (by kernel_rfl) (by kernel_rfl) e4
  have := flatP_at (k := .i32) (cs := cs.toList) gtab 0 (fun j x hj => by rw [Nat.zero_add]; exact ht j x hj) i c (by rw [← cells0]; exact hc)
  rw [World.var?_cell place0 e3 i]
  simpa using this
noncomputable def start (os : Os) : World :=
  let w0 := World.holding Tryd.prog os ⟨#[], #[], []⟩
  { w0 with heap := w0.heap.modify 0 fun
      | .cells _ t frozen => .cells heldCells.toArray t frozen
      | o => o }
theorem start_met (os : Os) (args : Array Value) : laidMetH Tryd.prog vars ((start os).forCall (fun _ _ => 0) ⟨#[], args, []⟩).memory :=
  laidMetH_of_parts (laidMet_of_run' 8 (by kernel_rfl) (by kernel_rfl)) (by kernel_rfl)
set_option maxRecDepth 100000 in
theorem contract (H : Type) (enc : TypeId × Value → H) (W : World) (base : Nat) (args : Array Value) (ds gs : List (DataW H)) (before : List MemPlace) (hla : Held W)
    (hval : ∀ (j : Nat) t v, Tryd.f4.params[j]? = some t → args[j]? = some v → Value.okWide Tryd.prog W .any base t v)
    (hW : DataW.Whole enc Tryd.prog Tryd.f4.params.toList Rows.levelsPartsSpec.vars false W args.toList ds gs before)
    (hk : Rows.uptoSmall H (ds ++ gs) = true) :
    Calls Tryd.prog 4 args W fun e W' => ∃ v, e = .returned v ∧ Rows.levelsPartsSpec.post enc Tryd.prog Tryd.f4 false true false false W args v W' :=
  law_contract ctx0 laidOut law18_LevelsParts_ok (s := Rows.levelsPartsSpec) rfl (by kernel_rfl) (by kernel_rfl) (tb := 4) (by kernel_rfl) Tryd.underlying4 (fun ds h => match ds, h with | [_, _, _], _ => rfl) (N := 1048576) (fun x hw hb => levelsParts_all x hw hb) hla hval hW (by simpa [Rows.uptoSmall] using hk)
set_option maxRecDepth 100000 in
theorem lifted (os : Os) (started : os.Started) (H : Type) (enc : TypeId × Value → H) (F : Stop.Interp) :
    ReturnsInHanded {} Tryd.checked os 4 .any (fun w args => ((Rows.OpenSpec.upto Rows.levelsPartsSpec).pre enc Tryd.prog Tryd.f4 [] false w args ∧ laidMetH Tryd.prog vars w) ∧ sizedMet enc Tryd.prog Tryd.f4 (Rows.OpenSpec.upto Rows.levelsPartsSpec) false w args)
      (((Rows.OpenSpec.upto Rows.levelsPartsSpec).at F).post enc Tryd.prog Tryd.f4 false true false false) := by
  refine returnsInHanded_of_cond_and (C := Tryd.checked) (s := Rows.OpenSpec.upto Rows.levelsPartsSpec) (k := Rows.uptoSmall) rfl (X := fun w _ => laidMetH Tryd.prog vars w) (fun _ _ _ hh h => h.of_heap hh) own started (by kernel_rfl) Tryd.func4
    (witness_cond_at (enc := enc) (C := Tryd.checked) (os := os) (s := Rows.OpenSpec.upto Rows.levelsPartsSpec) (k := Rows.uptoSmall) rfl (X := fun w _ => laidMetH Tryd.prog vars w) false (start os) #[.slice none 0 0, .slice none 0 0, .int .u8 0] 8 rfl (by kernel_rfl) (by kernel_rfl) (by kernel_rfl)
      (x := ([.nil, .nil, .lit (.int .u8 0)], [], [])) (by kernel_rfl) rfl (by kernel_rfl) (by kernel_rfl) (start_met os _)) ?_
  intro W base args ds gs before hval hW hk hL
  exact contract H enc W base args ds gs before (held hL) hval hW hk
theorem over : Rows.levelsPartsUptoRow.holds Tryd.pinned (Rows.OpenSpec.upto Rows.levelsPartsSpec) :=
  OpenClaim.holds_of_cond 4 Tryd.f4 rfl rfl rfl rfl rfl rfl rfl ⟨rfl, rfl, rfl, rfl, rfl⟩ rfl rfl rfl rfl rfl (by kernel_rfl) Tryd.func4 (by kernel_rfl)
    (of_decide_eq_true (by kernel_rfl)) (by unfold Func.isWrapper; first | (rw [if_pos (by decide +kernel)]; kernel_rfl) | (rw [if_neg (by decide +kernel)]; exact ⟨rfl, rfl⟩))
    (fun os started H enc _ F => lifted os started H enc F)
theorem proved : Rows.LevelsPartsUptoCardSaid :=
  Claim7.holds_tied_plain_at .later [] [.data] true _ false over (fun _ h => by cases h) (by kernel_rfl) (fun _ h => by cases h) levelsPartsUpto_row_tie rfl ⟨rfl, rfl⟩ (by kernel_rfl) rfl
    (fun f fn hf hfn => by
      obtain rfl : f = 4 := (Option.some.inj ((show Tryd.prog.funcNamed "boustrophedon/boustrophedonlaw18.LevelsParts" = some 4 by kernel_rfl).symm.trans hf)).symm
      obtain rfl : fn = Tryd.f4 := (Option.some.inj (Tryd.func4.symm.trans hfn)).symm
      have hall : Tryd.f4.params.toList.all (fun t => !Tryd.prog.wantsStandIn t) = true := by kernel_rfl
      refine ⟨by kernel_rfl, fun j t ht => ?_⟩
      have hm : t ∈ Tryd.f4.params.toList := Array.mem_toList_iff.2 (Array.mem_of_getElem? ht)
      have hn : Tryd.prog.wantsStandIn t = false := by simpa using List.all_eq_true.1 hall t hm
      exact hn)
    (by kernel_rfl)
end levelsParts
end Go.Proofs.YtenbhmjcoljddaaDoor
