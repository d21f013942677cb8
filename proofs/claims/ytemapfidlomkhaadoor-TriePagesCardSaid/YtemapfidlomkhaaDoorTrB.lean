/-
  What trie.Build keeps at each round: the trie that it makes, its rows, the map of pages.
-/
import Derived.Test.YtemapfidlomkhaaDoorTrA
import Derived.OwnWalk
import Derived.Laws.OwnMore
import Derived.Maps.AppendAt
import Derived.Maps.OwnOps
namespace Go.Proofs.YtemapfidlomkhaaDoor
set_option linter.all false
open Go.RowKit Go.Maps

theorem own_heap {w : World} {B : Nat} {e : TypeId} {s n : Nat} {v : Value} {xs : List Value} (h : w.ownsRow B e s v n xs) {b : Nat} (hb : v.ownBlock = some b) : ∃ cur, w.heap[b]? = some (.cells cur e (0, 0)) := by
  rcases h.2 with ⟨rfl, _⟩ | ⟨g, cap, cur, rfl, _, hg, _⟩
  · simp [Value.ownBlock] at hb
  · simp only [Value.ownBlock, Option.some.injEq] at hb
    subst hb
    exact ⟨cur, hg⟩
theorem own_slice {w : World} {B : Nat} {e : TypeId} {s n : Nat} {v : Value} {xs : List Value} (h : w.ownsRow B e s v n xs) : ∃ A cap, v = .slice A n cap := by
  rcases h.2 with ⟨rfl, rfl⟩ | ⟨g, cap, cur, rfl, _⟩
  · exact ⟨_, _, rfl⟩
  · exact ⟨_, _, rfl⟩

structure JV (B : Nat) (w0 w : World) (ab acap tb mb : Nat) (bv vv : Value) (all bl : List Int) (l : List (List Int)) (D : DataW Unit) (m : Nat) : Prop where
  below : Below B w0 w
  base : B ≤ w.heap.size
  row : w.ownsRow B 5 1 (.slice (some ⟨ab, 0, none⟩) 1114112 acap) 1114112 (all.map (Value.int .u8))
  box : w.heap[tb]? = some (.cells #[bv, vv] 53 (0, 0))
  tbB : B ≤ tb
  blr : w.ownsRow B 3 1 bv bl.length (bl.map (Value.int .i64))
  vlr : w.ownsRow B 5 1 vv l.flatten.length (l.flatten.map (Value.int .u8))
  ap : ∀ b, vv.ownBlock = some b → b ≠ ab
  map : w.ownsMap Tryd.prog 9 (plainElem Tryd.prog 3) mb m D
  mbB : B ≤ mb
  md : MD D l

section
variable {B : Nat} {w0 w : World} {ab acap tb mb : Nat} {bv vv : Value} {all bl : List Int} {l : List (List Int)} {D : DataW Unit} {m : Nat}

theorem JV.mapHeap (h : JV B w0 w ab acap tb mb bv vv all bl l D m) : ∃ es clock, w.heap[mb]? = some (.map es clock) := by
  obtain ⟨es, clock, hb, _⟩ := h.map
  exact ⟨es, clock, hb⟩
theorem JV.tb_ne_ab (h : JV B w0 w ab acap tb mb bv vv all bl l D m) : tb ≠ ab := by
  rintro rfl
  obtain ⟨cur, hc⟩ := own_heap h.row (b := tb) rfl
  rw [h.box] at hc
  simp at hc
theorem JV.mb_ne_tb (h : JV B w0 w ab acap tb mb bv vv all bl l D m) : mb ≠ tb := by
  rintro rfl
  obtain ⟨es, clock, hc⟩ := h.mapHeap
  rw [h.box] at hc
  simp at hc
theorem JV.mb_ne_ab (h : JV B w0 w ab acap tb mb bv vv all bl l D m) : mb ≠ ab := by
  rintro rfl
  obtain ⟨es, clock, hc⟩ := h.mapHeap
  obtain ⟨cur, hd⟩ := own_heap h.row (b := mb) rfl
  rw [hc] at hd
  simp at hd
theorem JV.bv_ne (h : JV B w0 w ab acap tb mb bv vv all bl l D m) {b : Nat} (hb : bv.ownBlock = some b) : b ≠ tb ∧ b ≠ ab ∧ b ≠ mb ∧ vv.ownBlock ≠ some b := by
  obtain ⟨cur, hc⟩ := own_heap h.blr hb
  refine ⟨?_, ?_, ?_, fun e => ?_⟩
  · rintro rfl; rw [h.box] at hc; simp at hc
  · rintro rfl
    obtain ⟨cur', hd⟩ := own_heap h.row (b := b) rfl
    rw [hd] at hc; simp at hc
  · rintro rfl
    obtain ⟨es, clock, hd⟩ := h.mapHeap
    rw [hd] at hc; simp at hc
  · obtain ⟨cur', hd⟩ := own_heap h.vlr e
    rw [hd] at hc; simp at hc
theorem JV.vv_ne (h : JV B w0 w ab acap tb mb bv vv all bl l D m) {b : Nat} (hb : vv.ownBlock = some b) : b ≠ tb ∧ b ≠ mb := by
  obtain ⟨cur, hc⟩ := own_heap h.vlr hb
  refine ⟨?_, ?_⟩
  · rintro rfl; rw [h.box] at hc; simp at hc
  · rintro rfl
    obtain ⟨es, clock, hd⟩ := h.mapHeap
    rw [hd] at hc; simp at hc
theorem JV.tb_lt (h : JV B w0 w ab acap tb mb bv vv all bl l D m) : tb < w.heap.size := (Array.getElem?_eq_some_iff.1 h.box).1

/-- the block of a row is kept behind writes elsewhere -/
theorem kept_row {w w' : World} {e : TypeId} {s n : Nat} {v : Value} {xs : List Value} {r : Option Nat} (h : w.ownsRow B e s v n xs) (hg : w.grownBy w' r) (hne : ∀ b, v.ownBlock = some b → some b ≠ r) : w'.ownsRow B e s v n xs := by
  refine h.kept hg ?_
  cases ho : v.ownBlock with
  | none => exact .inl rfl
  | some b => exact .inr (hne b ho)

theorem JV.fields (h : JV B w0 w ab acap tb mb bv vv all bl l D m) : w.cell? ⟨tb, 0, none⟩ = some bv ∧ w.cell? ⟨tb, 1, none⟩ = some vv ∧ w.frozen? ⟨tb, 0, none⟩ = false ∧ w.frozen? ⟨tb, 1, none⟩ = false := by
  refine ⟨?_, ?_, frozen_of_row w tb 0 _ _ h.box, frozen_of_row w tb 1 _ _ h.box⟩
  · rw [cell_of_row w tb 0 _ _ _ h.box]; rfl
  · rw [cell_of_row w tb 1 _ _ _ h.box]; rfl

/-- a page behind the values, and where it stands in the map -/
theorem JV.values (h : JV B w0 w ab acap tb mb bv vv all bl l D m) {w1 w2 : World} {D' : DataW Unit} {q : List Int} {vv' : Value} (hq : q.length = 128) (hm : w1.ownsMap Tryd.prog 9 (plainElem Tryd.prog 3) mb (m + 1) D') (hg1 : w.grownBy w1 (some mb))
    (hown : w2.ownsRow B 5 1 vv' (l.flatten.length + 128) (l.flatten.map (Value.int .u8) ++ q.map (Value.int .u8))) (hg2 : w1.grownBy w2 vv.ownBlock) (hv : vv'.ownBlock = vv.ownBlock ∨ vv'.ownBlock = some w1.heap.size) (md' : MD D' (l ++ [q])) :
    JV B w0 (w2.setCell ⟨tb, 1, none⟩ vv') ab acap tb mb bv vv' all bl (l ++ [q]) D' (m + 1) := by
  have hvv : ∀ b, vv.ownBlock = some b → B ≤ b := fun b hb => (h.vlr.lt b hb).1
  have hvv' : ∀ b, vv'.ownBlock = some b → b ≠ tb ∧ b ≠ ab := by
    intro b hb
    rcases hv with e | e
    · exact ⟨(h.vv_ne (by rw [← e]; exact hb)).1, h.ap b (by rw [← e]; exact hb)⟩
    · rw [e] at hb
      cases hb
      have h1 := h.tb_lt
      have h2 := hg1.size
      have h3 := (h.row.lt ab rfl).2
      constructor <;> omega
  have box2 : w2.heap[tb]? = some (.cells #[bv, vv] 53 (0, 0)) := by
    rw [hg2.block tb (Nat.lt_of_lt_of_le h.tb_lt hg1.size) (fun e => (h.vv_ne e.symm).1 rfl), hg1.block tb h.tb_lt (fun e => h.mb_ne_tb (by cases e; rfl))]
    exact h.box
  have hg3 : w2.grownBy (w2.setCell ⟨tb, 1, none⟩ vv') (some tb) := ⟨rfl, rfl, rfl, by simp, fun k _ hk => heap_setCell_other w2 ⟨tb, 1, none⟩ k vv' (fun e => hk (by simp [e]))⟩
  refine ⟨((h.below.grown hg1 h.base (fun k e => by cases e; exact h.mbB)).grown hg2 (Nat.le_trans h.base hg1.size) (fun k e => hvv k e)).grown hg3 (Nat.le_trans h.base (Nat.le_trans hg1.size hg2.size)) (fun k e => by cases e; exact h.tbB),
    Nat.le_trans h.base (Nat.le_trans hg1.size (Nat.le_trans hg2.size hg3.size)), ?_, ?_, h.tbB, ?_, ?_, ?_, ?_, h.mbB, md'⟩
  · refine kept_row (kept_row (kept_row h.row hg1 fun b hb e => ?_) hg2 fun b hb e => ?_) hg3 fun b hb e => ?_
    · cases hb; cases e; exact h.mb_ne_ab rfl
    · cases hb; exact h.ap ab e.symm rfl
    · cases hb; cases e; exact h.tb_ne_ab rfl
  · rw [heap_setCell_same w2 tb 1 _ _ vv' box2]; rfl
  · refine kept_row (kept_row (kept_row h.blr hg1 fun b hb e => ?_) hg2 fun b hb e => ?_) hg3 fun b hb e => ?_
    · cases e; exact (h.bv_ne hb).2.2.1 rfl
    · exact (h.bv_ne hb).2.2.2 e.symm
    · cases e; exact (h.bv_ne hb).1 rfl
  · have := kept_row hown hg3 (fun b hb e => by cases e; exact (hvv' _ hb).1 rfl)
    simpa [hq] using this
  · exact fun b hb => (hvv' b hb).2
  · refine (hm.kept hg2 (fun e => (h.vv_ne e.symm).2 rfl)).kept hg3 (fun e => h.mb_ne_tb (by cases e; rfl))

/-- a block's number behind the others -/
theorem JV.blocks (h : JV B w0 w ab acap tb mb bv vv all bl l D m) {w2 : World} {o : Go.Obj} {i : Int} {bv' : Value} (hown : w2.ownsRow B 3 1 bv' (bl.length + 1) (bl.map (Value.int .i64) ++ [.int .i64 i])) (hg2 : (w.alloc o).grownBy w2 bv.ownBlock)
    (hv : bv'.ownBlock = bv.ownBlock ∨ bv'.ownBlock = some (w.heap.size + 1)) : JV B w0 (w2.setCell ⟨tb, 0, none⟩ bv') ab acap tb mb bv' vv all (bl ++ [i]) l D m := by
  have hg : w.grownBy w2 bv.ownBlock := (World.grownBy_alloc w o _).trans hg2
  have hbv : ∀ b, bv.ownBlock = some b → B ≤ b := fun b hb => (h.blr.lt b hb).1
  have hbv' : ∀ b, bv'.ownBlock = some b → b ≠ tb := by
    intro b hb
    rcases hv with e | e
    · exact (h.bv_ne (by rw [← e]; exact hb)).1
    · rw [e] at hb
      cases hb
      have h1 := h.tb_lt
      omega
  have box2 : w2.heap[tb]? = some (.cells #[bv, vv] 53 (0, 0)) := by
    rw [hg.block tb h.tb_lt (fun e => (h.bv_ne e.symm).1 rfl)]
    exact h.box
  have hg3 : w2.grownBy (w2.setCell ⟨tb, 0, none⟩ bv') (some tb) := ⟨rfl, rfl, rfl, by simp, fun k _ hk => heap_setCell_other w2 ⟨tb, 0, none⟩ k bv' (fun e => hk (by simp [e]))⟩
  refine ⟨(h.below.grown hg h.base (fun k e => hbv k e)).grown hg3 (Nat.le_trans h.base hg.size) (fun k e => by cases e; exact h.tbB), Nat.le_trans h.base (Nat.le_trans hg.size hg3.size), ?_, ?_, h.tbB, ?_, ?_, h.ap, ?_, h.mbB, h.md⟩
  · refine kept_row (kept_row h.row hg fun b hb e => ?_) hg3 fun b hb e => ?_
    · cases hb; exact (h.bv_ne e.symm).2.1 rfl
    · cases hb; cases e; exact h.tb_ne_ab rfl
  · rw [heap_setCell_same w2 tb 0 _ _ bv' box2]; rfl
  · have := kept_row hown hg3 (fun b hb e => by cases e; exact hbv' _ hb rfl)
    simpa using this
  · refine kept_row (kept_row h.vlr hg fun b hb e => ?_) hg3 fun b hb e => ?_
    · exact (h.bv_ne e.symm).2.2.2 hb
    · cases e; exact (h.vv_ne hb).1 rfl
  · refine (h.map.kept hg (fun e => (h.bv_ne e.symm).2.2.1 rfl)).kept hg3 (fun e => h.mb_ne_tb (by cases e; rfl))
end

end Go.Proofs.YtemapfidlomkhaaDoor
