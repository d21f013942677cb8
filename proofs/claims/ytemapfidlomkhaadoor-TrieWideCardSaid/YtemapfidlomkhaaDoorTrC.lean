/-
  What a call of trie.Build does where the ranges are right, by a walk.
-/
import Derived.Test.YtemapfidlomkhaaDoorShA
import Derived.Test.YtemapfidlomkhaaDoorTrB
import Derived.Outline
import Derived.LoopTactic
namespace Go.Proofs.YtemapfidlomkhaaDoor
set_option linter.all false
open Go.RowKit Go.Maps

theorem pages_any (tb n k cap : Nat) (A : Option Addr) (w : World) (hn : n = 128 * k) (hk : k ≤ 100000) (hc : w.cell? ⟨tb, 1, none⟩ = some (.slice A n cap)) :
    Calls Tryd.prog 15 #[.pointer (some ⟨tb, 0, none⟩)] w fun e w' => e = .returned (.int .i64 (k : Int)) ∧ w' = w := by
  have hw : ((n : Int) / 128) = (k : Int) := by omega
  clear hn
  go_enter Tryd.func15, Tryd.ntmps15
  go_wp2
  go_ret
  exact ⟨rfl, rfl⟩

theorem held_below {w w' : World} (h : Held w) (hb : Below w.heap.size w w') : Held w' := fun i c hc => by
  have h1 := h i c hc
  exact (hb.cell (Held.lt h1)).trans h1
theorem args_below {w w' : World} (hb : Below w.heap.size w w') : ∀ {ps : List Ty} {x : Tys.I ps} {vs : List Value}, ArgsRd w ps x vs → ArgsRd w' ps x vs
  | [], _, _, h => h
  | t :: r, x, vs, h => by
    obtain ⟨v, us, rfl, h1, h2⟩ := h
    exact ⟨v, us, rfl, h1.keep hb.size (fun _ _ h => h) (fun b hlt _ => hb.block b hlt), args_below hb h2⟩

theorem wpList_append_at {P : Program} {ops : Array Oper} {rest : List Oper} {o : Oper} {a : Act} {Q : Exit → Act → World → Prop} (w : World) (hgd : o.guard = none) (s x : Operand) (t : TypeId)
    (ho : o.op = .call { callee := .builtin .append, args := #[s, x], argTypes := #[t, t] })
    (base : Nat) (e : TypeId) (i : TypeInfo) (z : Value) (size bytes : Nat) (ht : P.underlying t = some (.slice e)) (hi : P.info? e = some i) (hz : i.zero = some z)
    (hsize : i.size = size) (hby : i.bytes = bytes) (hzs : z.cells.size = size) (hsz : 0 < size)
    (v : Value) (n : Nat) (xs : List Value) (hs : a.eval s = v) (hown : w.ownsRow base e size v n xs)
    (ad : Addr) (m c : Nat) (news : List Value) (hx : a.eval x = .slice (some ad) m c) (hl : news.length = m * size) (hnews : ∀ j u, news[j]? = some u → w.cell? (ad.add j) = some u) (h1 : ∀ u ∈ news, u.oneCell' = true)
    (h63 : n + m ≤ maxLen) (hbytes : (n + m) * bytes ≤ 140737488355328) (hbase : base ≤ w.heap.size)
    (h : ∀ v' w', w'.ownsRow base e size v' (n + m) (xs ++ news) → w.grownBy w' v.ownBlock → (v'.ownBlock = v.ownBlock ∨ v'.ownBlock = some w.heap.size) → wpList P ops Q rest (a.put o.dst v') w') : wpList P ops Q (o :: rest) a w :=
  wpList_plain hgd fun _ hK => by
    obtain ⟨v', w', hr, h2, h3, _, h4⟩ := run_append_own_at (P := P) w base t o.type e i z size bytes ht hi hz hsize hby hzs hsz v n xs hown ad m c news hl hnews h1 h63 hbytes hbase
    unfold Oper.wp execOp
    simp only [ho, resolve, invoke, builtin, Sem.run_bind, Sem.run_pure, Result.andThen_ok, List.map_toArray, List.map_cons, List.map_nil, hs, hx, hr]
    exact hK _ _ (h v' w' h2 h3 h4)

theorem infoU8 : (Tryd.prog.info? 5).map (fun i => (i.zero, i.size, i.bytes)) = some (some (.int .u8 0), 1, 1) := by kernel_rfl
theorem infoI64 : (Tryd.prog.info? 3).map (fun i => (i.zero, i.size, i.bytes)) = some (some (.int .i64 0), 1, 8) := by kernel_rfl
theorem zeroE (w : World) : (zeroValue 3).run Tryd.prog w = .ok (.int .i64 0) w := by kernel_rfl
theorem strLaw : Keyed Tryd.prog 9 := string_keyed Tryd.underlying9

theorem err_none {B : Nat} {w : World} {tf te : Nat} {v : Value} (h : RetRd B w [.v (.err tf te)] none v) : v = .nilIface := by
  obtain ⟨vs, hv, _, u, rfl, hu⟩ := h
  obtain ⟨cs, h1, h2⟩ := hu
  unfold Rd at h1
  dsimp only at h1
  subst h1
  have hv : v = u := hv
  rw [hv, h2]
  rfl
theorem flat_row {B : Nat} {w : World} {all : List Int} {v : Value} (hal : all.length = 1114112) (h : RetRd B w [.row 5 (.int .u8)] all v) : ∃ ab acap, v = .slice (some ⟨ab, 0, none⟩) 1114112 acap ∧ w.ownsRow B 5 1 (.slice (some ⟨ab, 0, none⟩) 1114112 acap) 1114112 (all.map (Value.int .u8)) := by
  obtain ⟨vs, hv, _, u, rfl, ⟨cs, h1, h2⟩, hB⟩ := h
  have hv : v = u := hv
  subst hv
  dsimp only at h1 h2
  rw [hal] at h1
  have ecs : cs = all.map (Value.int .u8) := by
    have hl : cs.length = 1114112 := by have := h1.1; simpa [Ty.size] using this
    apply List.ext_getElem?
    intro j
    rw [List.getElem?_map]
    by_cases hj : j < all.length
    · obtain ⟨us, k1, k2⟩ := h2 j all[j] (List.getElem?_eq_getElem hj)
      unfold Rd at k1
      subst k1
      have := k2 0 _ rfl
      rw [show (Ty.int IntKind.u8).size = 1 from rfl, Nat.mul_one, Nat.add_zero] at this
      rw [this, List.getElem?_eq_getElem hj]
      rfl
    · rw [List.getElem?_eq_none (by omega), List.getElem?_eq_none (by omega)]
      rfl
  subst ecs
  rcases h1.2 with ⟨_, e⟩ | ⟨g, cap, cur, rfl, _, r⟩
  · omega
  · exact ⟨g, cap, rfl, h1.1, .inr ⟨g, cap, cur, rfl, hB g rfl, r⟩⟩

theorem own_cap {w : World} {B ab acap n : Nat} {xs : List Value} {e : TypeId} (h : w.ownsRow B e 1 (.slice (some ⟨ab, 0, none⟩) n acap) n xs) : n ≤ acap := by
  rcases h.2 with ⟨e, _⟩ | ⟨g, cap, cur, e, _, _, hn, _⟩
  · simp at e
  · cases e; exact hn

theorem wpList_convert {P : Program} {w : World} {ops : Array Oper} {rest : List Oper} {o : Oper} {a : Act} {Q : Exit → Act → World → Prop} (hgd : o.guard = none) (x : Operand) (t t' : TypeId) (hop : o.op = .convert t t' x) (v : Value) (hx : a.eval x = v) (s : Value)
    (hrun : (convert t t' v).run P w = .ok s w) (h : wpList P ops Q rest (a.put o.dst s) w) : wpList P ops Q (o :: rest) a w :=
  wpList_plain hgd fun K' hK' => by
    unfold Oper.wp
    simp [execOp, hop, hx, hrun, Result.andThen]
    exact hK' _ _ h

theorem ilit_cell (w : World) (g : Int) : ∀ (j : Nat) (u : Value), [Value.int .i64 g][j]? = some u → (w.alloc (.cells #[.int .i64 g] 3)).cell? ((⟨w.heap.size, 0, none⟩ : Addr).add j) = some u := by
  intro j u hj
  match j, hj with
  | 0, hj => simp at hj; subst hj; simp [Addr.add]
theorem ilit_cellS (w : World) (a : Addr) (v : Value) (g : Int) : ∀ (j : Nat) (u : Value), [Value.int .i64 g][j]? = some u → ((w.setCell a v).alloc (.cells #[.int .i64 g] 3)).cell? ((⟨w.heap.size, 0, none⟩ : Addr).add j) = some u := by
  have h := ilit_cell (w.setCell a v) g
  have e : (w.setCell a v).heap.size = w.heap.size := by simp
  rw [e] at h
  exact h
theorem ilit_one (g : Int) : ∀ u ∈ [Value.int .i64 g], u.oneCell' = true := by
  intro u hu; simp at hu; subst hu; rfl
theorem own_some {w : World} {B : Nat} {e : TypeId} {s n : Nat} {v : Value} {xs : List Value} (h : w.ownsRow B e s v (n + 1) xs) : ∃ g cap, v = .slice (some ⟨g, 0, none⟩) (n + 1) cap := by
  rcases h.2 with ⟨_, h⟩ | ⟨g, c, cur, rfl, _⟩
  · omega
  · exact ⟨_, _, rfl⟩
theorem grow_box {B : Nat} {w0 w w3 : World} {ab acap tb mb : Nat} {bv vv : Value} {all bl : List Int} {l : List (List Int)} {D : DataW Unit} {m n : Nat} {v' : Value} {ys : List Value} {o : Go.Obj} (h : JV B w0 w ab acap tb mb bv vv all bl l D m)
    (hown : w3.ownsRow B 3 1 v' (n + 1) ys) (hg : (w.alloc o).grownBy w3 bv.ownBlock) :
    (∃ g' cap', v' = .slice (some ⟨g', 0, none⟩) (n + 1) cap') ∧ (∃ u, w3.cell? ⟨tb, 0, none⟩ = some u) ∧ w3.frozen? ⟨tb, 0, none⟩ = false := by
  have hg0 : w.grownBy w3 bv.ownBlock := (World.grownBy_alloc w o _).trans hg
  have box : w3.heap[tb]? = some (.cells #[bv, vv] 53 (0, 0)) := by
    rw [hg0.block tb h.tb_lt (fun e => (h.bv_ne e.symm).1 rfl)]; exact h.box
  exact ⟨own_some hown, ⟨bv, by rw [cell_of_row w3 tb 0 _ _ _ box]; rfl⟩, frozen_of_row w3 tb 0 _ _ box⟩

theorem page_cells {w : World} {B ab acap k : Nat} {all : List Int} (h : w.ownsRow B 5 1 (.slice (some ⟨ab, 0, none⟩) 1114112 acap) 1114112 (all.map (Value.int .u8))) (hk : k < 8704) (hal : all.length = 1114112) :
    ∀ i, i < 128 → w.cell? ⟨ab, 128 * k + i, none⟩ = some (.int .u8 ((pg all k).getD i 0)) := by
  intro i hi
  rw [h.cellAt (128 * k + i) (by omega), List.getElem?_map, List.getElem?_eq_getElem (by omega)]
  simp only [Option.map_some, pg, List.getD, List.getElem?_take, List.getElem?_drop]
  rw [if_pos hi, List.getElem?_eq_getElem (by omega)]
  rfl

theorem u8_one (q : List Int) : ∀ u ∈ q.map (Value.int .u8), u.oneCell' = true := by
  intro u hu
  obtain ⟨x, _, rfl⟩ := List.mem_map.1 hu
  rfl
theorem map_box {B : Nat} {w0 w w1 : World} {ab acap tb mb : Nat} {bv vv : Value} {all bl : List Int} {l : List (List Int)} {D : DataW Unit} {m k : Nat} (h : JV B w0 w ab acap tb mb bv vv all bl l D m) (hg : w.grownBy w1 (some mb)) (hk : Hid (k + 1 ≤ 8704)) (hal : Hid (all.length = 1114112)) :
    w1.cell? ⟨tb, 1, none⟩ = some vv ∧ w1.ownsRow B 5 1 vv l.flatten.length (l.flatten.map (Value.int .u8)) ∧ (∀ (j : Nat) (u : Value), ((pg all k).map (Value.int .u8))[j]? = some u → w1.cell? ((⟨ab, 128 * k, none⟩ : Addr).add j) = some u) ∧ B ≤ w1.heap.size ∧ w1.heap[tb]? = some (.cells #[bv, vv] 53 (0, 0)) := by
  have box : w1.heap[tb]? = some (.cells #[bv, vv] 53 (0, 0)) := by
    rw [hg.block tb h.tb_lt (fun e => h.mb_ne_tb (by cases e; rfl))]; exact h.box
  refine ⟨by rw [cell_of_row w1 tb 1 _ _ _ box]; rfl, kept_row h.vlr hg (fun b hb e => by cases e; exact (h.vv_ne hb).2 rfl), fun j u hu => ?_, Nat.le_trans h.base hg.size, box⟩
  have hrow := kept_row h.row hg (fun b hb e => by cases hb; cases e; exact h.mb_ne_ab rfl)
  have hc := page_cells hrow (k := k) hk.out hal.out
  rw [List.getElem?_map] at hu
  cases hx : (pg all k)[j]? with
  | none => rw [hx] at hu; cases hu
  | some x =>
    rw [hx] at hu
    cases hu
    have hj : j < (pg all k).length := (List.getElem?_eq_some_iff.1 hx).1
    have hj8 : j < 128 := by simp only [pg, List.length_take] at hj; omega
    rw [addr_add, hc j hj8, List.getD, hx]
    rfl
theorem val_box {B : Nat} {w1 w3 : World} {tb : Nat} {bv vv : Value} {n : Nat} {v' : Value} {ys : List Value} (box : w1.heap[tb]? = some (.cells #[bv, vv] 53 (0, 0)) ∧ True) (hown : w3.ownsRow B 5 1 v' (n + 128) ys) (hg : w1.grownBy w3 vv.ownBlock) (hne : vv.ownBlock ≠ some tb) :
    (∃ g' cap', v' = .slice (some ⟨g', 0, none⟩) (n + 128) cap') ∧ (∃ u, w3.cell? ⟨tb, 1, none⟩ = some u) ∧ w3.frozen? ⟨tb, 1, none⟩ = false := by
  have box3 : w3.heap[tb]? = some (.cells #[bv, vv] 53 (0, 0)) := by
    rw [hg.block tb (Array.getElem?_eq_some_iff.1 box.1).1 (fun e => hne e.symm)]; exact box.1
  exact ⟨own_some (n := n + 127) hown, ⟨vv, by rw [cell_of_row w3 tb 1 _ _ _ box3]; rfl⟩, frozen_of_row w3 tb 1 _ _ box3⟩

theorem jv_start {w w1 w2 : World} {ab acap : Nat} {all : List Int} (hb1 : Below w.heap.size w w1) (hb2 : Below w1.heap.size w1 w2) (hrow : w2.ownsRow w1.heap.size 5 1 (.slice (some ⟨ab, 0, none⟩) 1114112 acap) 1114112 (all.map (Value.int .u8))) :
    JV w.heap.size w ((w2.alloc (.cells #[.slice none 0 0, .slice none 0 0] 53)).alloc (.map #[] 0)) ab acap w2.heap.size (w2.heap.size + 1) (.slice none 0 0) (.slice none 0 0) all [] [] (.map []) 0 := by
  have h1 := hb1.size
  have h2 := hb2.size
  have hrow' : w2.ownsRow w.heap.size 5 1 (.slice (some ⟨ab, 0, none⟩) 1114112 acap) 1114112 (all.map (Value.int .u8)) := by
    refine ⟨hrow.1, ?_⟩
    rcases hrow.2 with h | ⟨g, cap, cur, e, hg, r⟩
    · exact .inl h
    · exact .inr ⟨g, cap, cur, e, by omega, r⟩
  have hbb : Below w.heap.size w w2 := hb1.trans (hb2.mono h1)
  refine ⟨(hbb.alloc (by omega) _).alloc (by simp; omega) _, by simp; omega, (hrow'.alloc _).alloc _, ?_, by omega, World.ownsRow_nil _ _ _ _, World.ownsRow_nil _ _ _ _, fun b hb => by simp [Value.ownBlock] at hb, ?_, by omega, MD.start⟩
  · rw [(World.grownBy_alloc (w2.alloc (.cells #[.slice none 0 0, .slice none 0 0] 53)) (.map #[] 0) none).block _ (by simp) (by simp)]
    exact heap_alloc_new w2 _
  · have := World.ownsMap_made (H := Unit) (w2.alloc (.cells #[.slice none 0 0, .slice none 0 0] 53)) Tryd.prog 9 (plainElem Tryd.prog 3)
    simpa using this

set_option maxHeartbeats 4000000 in
set_option maxRecDepth 1000000 in
theorem build_main (v0 : Value) (rs : List (Int × Int × Int)) (other : Int) (all : List Int) (w : World) (hla : Held w) (h0 : RdV w (fun _ => False) (.sl (.st (.pair (.int .i32) (.pair (.int .i32) (.int .u8))))) rs v0)
    (hck : trie_Check_F rs = some none) (hfl : trie_flat_F rs other = some all) (hal : all.length = 1114112) (hby : ∀ n ∈ all, 0 ≤ n ∧ n ≤ 255) :
    Calls Tryd.prog 11 #[v0, .int .u8 other] w fun e w' => ∃ ab acap tb mb bv vv D m, e = .returned (.tuple #[.pointer (some ⟨tb, 0, none⟩), .nilIface]) ∧ JV w.heap.size w w' ab acap tb mb bv vv all (bls all 8704) (pgs all 8704) D m := by
  obtain ⟨i0, hi, hz0, hz1, hz2⟩ := info_parts infoU8
  obtain ⟨j0, hi', hz0', hz1', hz2'⟩ := info_parts infoI64
  have hmm := @run_makeMap Tryd.prog
  go_enter Tryd.func11, Tryd.ntmps11
  go_wp2_with fail
  refine (trie_Check_ok.calls (rs, ()) _ hck w _ hla ⟨v0, [], rfl, h0, rfl⟩).mono ?_
  rintro e w1 ⟨v1, rfl, hb1, hr1⟩
  obtain rfl := err_none hr1
  go_wp2_with fail
  refine (trie_flat_ok.calls (rs, other, ()) _ hfl w1 _ (held_below hla hb1) ⟨v0, _, rfl, h0.keep hb1.size (fun _ _ h => h) (fun b hlt _ => hb1.block b hlt), _, [], rfl, int_val _ _, rfl⟩).mono ?_
  rintro e w2 ⟨av, rfl, hb2, hr2⟩
  obtain ⟨ab, acap, rfl, hrow⟩ := flat_row hal hr2
  clear hr1 hr2 hck hfl
  go_wp2
  have hj0 : JV w.heap.size w ((w2.alloc (.cells #[.slice none 0 0, .slice none 0 0] 53)).alloc (.map #[] 0)) ab acap w2.heap.size (w2.heap.size + 1) (.slice none 0 0) (.slice none 0 0) all [] [] (.map []) 0 := jv_start hb1 hb2 hrow
  generalize (w2.alloc (.cells #[.slice none 0 0, .slice none 0 0] 53)).alloc (.map #[] 0) = w3 at hj0 ⊢
  clear hrow
  generalize w2.heap.size + 1 = mb at hj0 ⊢
  generalize w2.heap.size = tb at hj0 ⊢
  clear hb2
  go_loopw [10] (fun at_ wr => ∃ (k : Nat) (bv vv : Value) (D : DataW Unit) (m : Nat), k ≤ 8704 ∧ at_ = .int .i64 ((128 * k : Nat) : Int) ∧ m ≤ k ∧ JV w.heap.size w wr ab acap tb mb bv vv all (bls all k) (pgs all k) D m)
    (fun at_ _ => 1114112 - (intOf at_).toNat)
  case atStart => exact ⟨0, _, _, _, _, Nat.zero_le _, rfl, Nat.le_refl _, hj0⟩
  case round =>
    obtain ⟨k, bv, vv, D, m, hk, rfl, hm, hj⟩ := hrel
    clear hj0
    by_cases hkl : k < 8704
    · have hq : Byte (pg all k) := pg_byte (by omega) hby
      have hql := hq.1
      obtain ⟨f0, f1, f2, f3⟩ := hj.fields
      have hrowc : ∀ i, i < 128 → wr.cell? ⟨ab, 128 * k + i, none⟩ = some (.int .u8 ((pg all k).getD i 0)) := page_cells hj.row hkl hal
      have hcv : ∀ c, (convert 43 9 (.slice (some ⟨ab, 128 * k, none⟩) 128 c)).run Tryd.prog wr = .ok (.string (strOfNums (pg all k))) wr := fun c => run_convert_bytes_arg wr 43 5 Tryd.underlying43 Tryd.underlying5 ab (128 * k) 128 c (pg all k) hql hrowc 9 Tryd.underlying9
      have hkey : keyOf Tryd.prog 9 (.string (strOfNums (pg all k))) = some (kl (pg all k)) := WideMaps.keyOf_string_mk Tryd.underlying9 (by rw [strOfNums_size, hql]; unfold maxLen; omega)
      have hhas := hj.md.has _ hq
      have hac0 := own_cap hj.row
      have hdec : ((128 : Int) * (k : Int) < 1114112) := by omega
      have hac1 : 128 * k + 128 ≤ acap := by omega
      have hac2 : 128 * k ≤ acap := by omega
      have hk1 : k + 1 ≤ 8704 := hkl
      have hk9 : Hid (k + 1 ≤ 8704) := hkl
      have hblr := hj.blr
      have hbl : (bls all k).length = k := bls_len k
      have hpl := pgs_len (all := all) k
      have hb3 : (bls all k).length + 1 ≤ maxLen := by rw [hbl]; unfold maxLen; omega
      have hb4 : ((bls all k).length + 1) * 8 ≤ 140737488355328 := by omega
      by_cases hin : pg all k ∈ pgs all k
      · rw [decide_eq_true hin] at hhas
        have hat0 := hj.md.at_ _ hq hin
        have hb5 : w.heap.size ≤ wr.heap.size + 1 := Nat.le_succ_of_le hj.base
        have hstep : pgs all (k + 1) = pgs all k := by rw [pgs_succ, if_pos hin]
        clear hac0 hal hkl hk hk1 hbl hpl hby hrowc hql
        go_wp2_with (first
          | (refine wpList_convert rfl (.tmp 36) 43 9 rfl (.slice (some ⟨ab, 128 * k, none⟩) (128 * k + 128 - 128 * k) (acap - 128 * k)) rfl (.string (strOfNums (pg all k))) (by rw [show 128 * k + 128 - 128 * k = 128 by omega]; exact hcv _) ?_)
          | (at_lookup; refine wpList_lookup_own_ok_int _ rfl _ _ 54 rfl 9 3 .i64 strLaw Tryd.underlying54 Tryd.underlying3 (zeroE _) mb m D rfl hj.map _ _ rfl hkey ?_; intro c hat hwc)
          | (at_builtin; refine wpList_append_at _ rfl (.tmp 62) (.tmp 64) 51 rfl w.heap.size 3 j0 (.int .i64 0) 1 8 Tryd.underlying51 hi' hz0' hz1' hz2' rfl (by decide) bv (bls all k).length ((bls all k).map (Value.int .i64)) rfl (hblr.alloc _) ⟨wr.heap.size, 0, none⟩ 1 1 [.int .i64 c] rfl rfl (ilit_cell _ _) (ilit_one _) hb3 hb4 (by simpa using hb5) ?_; intro v3 w4 hown4 hgrow4 hloc4; obtain ⟨⟨g3, cap3, rfl⟩, ⟨u3, q3⟩, q4⟩ := grow_box hj hown4 hgrow4))
        go_roundw
        case rel =>
          have hc : c = ((pgs all k).idxOf (pg all k) : Int) := by
            rw [hat0] at hat
            injection hat with hat
            injection hat with _ hat
            exact hat.symm
          have hj3 := hj.blocks hown4 hgrow4 (hloc4.imp id fun h => by rw [h, World.size_alloc])
          refine ⟨k + 1, .slice (some ⟨g3, 0, none⟩) ((bls all k).length + 1) cap3, vv, D, m, hk9.out, by rw [show 128 * (k + 1) = 128 * k + 128 by omega]; push_cast; rfl, by omega, ?_⟩
          have e1 : bls all (k + 1) = bls all k ++ [c] := by rw [hc]; show bls all k ++ [((pgs all (k + 1)).idxOf (pg all k) : Int)] = _; rw [hstep]
          rw [e1, hstep]
          exact hj3
        case measure => simp [intOf]; omega
      · rw [decide_eq_false hin] at hhas
        have hflen : (pgs all k).flatten.length = 128 * (pgs all k).length := pgs_flat k (fun q hqm => by
          obtain ⟨i, hi9, rfl⟩ := pgs_mem.1 hqm
          exact (pg_byte (by omega) hby).1)
        obtain ⟨A, vcap, rfl⟩ := own_slice hj.vlr
        obtain ⟨n9, hn9⟩ : ∃ n, (pgs all k).flatten.length = n := ⟨_, rfl⟩
        rw [hn9] at hj f1 hflen
        have hfl9 : Hid ((pgs all k).flatten.length = n9) := hn9
        have hwf : (Lit.int .i64 ((pgs all k).length : Int)).wf = true := WalkArith.wf_i64 ⟨by omega, by omega⟩
        have hmx : m < maxLen := by unfold maxLen; omega
        have hv3 : n9 + 128 ≤ maxLen := by unfold maxLen; omega
        have hv4 : (n9 + 128) * 1 ≤ 140737488355328 := by omega
        have hpg := pages_any tb _ (pgs all k).length vcap A wr hflen (by omega) f1
        have hstep : pgs all (k + 1) = pgs all k ++ [pg all k] := by rw [pgs_succ, if_neg hin]
        have hidx : ((pgs all (k + 1)).idxOf (pg all k) : Int) = ((pgs all k).length : Int) := by rw [hstep, List.idxOf_append, if_neg hin]; simp
        have hmd := hj.md.put hq hin
        have hvne : (Value.slice A n9 vcap).ownBlock ≠ some tb := fun e => (hj.vv_ne e).1 rfl
        have hkl9 : Hid (k + 1 ≤ 8704) := hkl
        have hal9 : Hid (all.length = 1114112) := hal
        clear hac0 hal hkl hk hk1 hbl hpl hby hflen hn9
        go_wp2_with (first
          | (refine wpList_convert rfl (.tmp 36) 43 9 rfl (.slice (some ⟨ab, 128 * k, none⟩) (128 * k + 128 - 128 * k) (acap - 128 * k)) rfl (.string (strOfNums (pg all k))) (by rw [show 128 * k + 128 - 128 * k = 128 by omega]; exact hcv _) ?_)
          | (refine wpList_convert rfl (.tmp 46) 43 9 rfl (.slice (some ⟨ab, 128 * k, none⟩) 128 (acap - 128 * k)) rfl (.string (strOfNums (pg all k))) (hcv _) ?_)
          | (at_lookup; refine wpList_lookup_own_ok_int _ rfl _ _ 54 rfl 9 3 .i64 strLaw Tryd.underlying54 Tryd.underlying3 (zeroE _) mb m D rfl hj.map _ _ rfl hkey ?_; intro c hat hwc)
          | (go_at_call 15; refine hpg.mono ?_; rintro e w9 ⟨rfl, rfl⟩)
          | (at_mapUpdate; refine wpList_mapUpdate_own _ rfl _ _ _ 54 rfl 9 3 strLaw Tryd.underlying54 _ mb m D rfl hj.map hmx _ _ _ rfl rfl hkey _ [] (plainElem_int Tryd.underlying3 hwf) ?_; intro w5 hown5 hgrow5; obtain ⟨r0, r1, r2, r3, r4⟩ := map_box hj hgrow5 hkl9 hal9; rw [hfl9.out] at r1)
          | (at_builtin; (refine wpList_append_at _ rfl (.tmp 53) (.tmp 54) 43 rfl w.heap.size 5 i0 (.int .u8 0) 1 1 Tryd.underlying43 hi hz0 hz1 hz2 rfl (by decide) (.slice A n9 vcap) n9 ((pgs all k).flatten.map (Value.int .u8)) rfl r1 ⟨ab, 128 * k, none⟩ 128 (acap - 128 * k) ((pg all k).map (Value.int .u8)) rfl (by rw [List.length_map, hql]) r2 (u8_one _) hv3 hv4 r3 ?_); intro v6 w6 hown6 hgrow6 hloc6; obtain ⟨⟨g6, cap6, rfl⟩, ⟨u6, q6⟩, q7⟩ := val_box ⟨r4, trivial⟩ hown6 hgrow6 hvne; have hj6 := hj.values hql hown5 hgrow5 (by rw [hfl9.out]; exact hown6) hgrow6 hloc6 hmd; obtain ⟨z0, z1, z2, z3⟩ := hj6.fields)
          | (at_builtin; (refine wpList_append_at _ rfl (.tmp 62) (.tmp 64) 51 rfl w.heap.size 3 j0 (.int .i64 0) 1 8 Tryd.underlying51 hi' hz0' hz1' hz2' rfl (by decide) bv (bls all k).length ((bls all k).map (Value.int .i64)) rfl (hj6.blr.alloc _) ⟨w6.heap.size, 0, none⟩ 1 1 [.int .i64 ((pgs all k).length : Int)] rfl rfl (ilit_cellS _ _ _ _) (ilit_one _) hb3 hb4 (by rw [World.size_alloc]; exact Nat.le_succ_of_le hj6.base) ?_); intro v3 w4 hown4 hgrow4 hloc4; obtain ⟨⟨g3, cap3, rfl⟩, ⟨u3, q3⟩, q4⟩ := grow_box hj6 hown4 hgrow4))
        go_roundw
        case rel =>
          have hj7 := hj6.blocks hown4 hgrow4 (hloc4.imp id fun h => by rw [h, World.size_alloc])
          have e1 : bls all (k + 1) = bls all k ++ [((pgs all k).length : Int)] := by rw [← hidx]; rfl
          rw [← e1, ← hstep] at hj7
          exact ⟨k + 1, .slice (some ⟨g3, 0, none⟩) ((bls all k).length + 1) cap3, _, _, m + 1, hkl9.out, by rw [show 128 * (k + 1) = 128 * k + 128 by omega]; push_cast; rfl, by omega, hj7⟩
        case measure => simp [intOf]; omega
    · have hkl : k = 8704 := by omega
      subst hkl
      go_wp2
      go_ret2
      exact ⟨_, _, _, _, _, _, _, _, rfl, hj⟩
end Go.Proofs.YtemapfidlomkhaaDoor
