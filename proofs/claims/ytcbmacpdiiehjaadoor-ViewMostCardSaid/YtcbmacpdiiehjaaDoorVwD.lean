/-
  What a call of view.Row does behind its checks, by a walk.
-/
import Derived.Test.YtcbmacpdiiehjaaDoorShA
import Derived.Test.YtcbmacpdiiehjaaDoorVwA
import Derived.Test.YtcbmacpdiiehjaaDoorVwC
import Derived.Outline
import Derived.LoopTactic
namespace Go.Proofs.YtcbmacpdiiehjaaDoor
set_option linter.all false
open Go.RowKit

theorem wpList_append_at {P : Program} {ops : Array Oper} {rest : List Oper} {o : Oper} {a : Act} {Q : Exit → Act → World → Prop} (w : World) (hgd : o.guard = none) (s x : Operand) (t : TypeId)
    (ho : o.op = .call { callee := .builtin .append, args := #[s, x], argTypes := #[t, t] })
    (base : Nat) (e : TypeId) (i : TypeInfo) (z : Value) (size bytes : Nat) (ht : P.underlying t = some (.slice e)) (hi : P.info? e = some i) (hz : i.zero = some z)
    (hsize : i.size = size) (hby : i.bytes = bytes) (hzs : z.cells.size = size) (hsz : 0 < size)
    (v : Value) (n : Nat) (xs : List Value) (hs : a.eval s = v) (hown : w.ownsRow base e size v n xs)
    (ad : Addr) (m c : Nat) (news : List Value) (hx : a.eval x = .slice (some ad) m c) (hl : news.length = m * size) (hnews : ∀ j u, news[j]? = some u → w.cell? (ad.add j) = some u) (h1 : ∀ u ∈ news, u.oneCell' = true)
    (h63 : n + m ≤ maxLen) (hbytes : (n + m) * bytes ≤ 140737488355328) (hbase : base ≤ w.heap.size)
    (h : ∀ v' w', w'.ownsRow base e size v' (n + m) (xs ++ news) → w.grownBy w' v.ownBlock → (v'.ownBlock = v.ownBlock ∨ v'.ownBlock = some w.heap.size) → wpList P ops Q rest (a.put o.dst v') w') : wpList P ops Q (o :: rest) a w :=
  wpList_plain hgd fun _ hK => by
    obtain ⟨v', w', hr, h2, h3, _, h4⟩ := run_append_own_at (P := P) w base t o.type e i z size bytes ht hi hz hsize hby hzs hsz v n xs hown ad m c news hl hnews h1 h63 hbytes hbase
    unfold Oper.wp execOp
    simp only [ho, resolve, invoke, builtin, Sem.run_bind, Sem.run_pure, Result.andThen_ok, List.map_toArray, List.map_cons, List.map_nil, hs, hx, hr]
    exact hK _ _ (h v' w' h2 h3 h4)

theorem info21 : (Tryd.prog.info? 21).map (fun i => (i.zero, i.size, i.bytes)) = some (some (.int .i32 0), 1, 4) := by kernel_rfl

theorem put_case {B : Nat} {w0 w : World} {v tv : Value} {n : Nat} {xs : List Cl} {last : Int} (h : JR B w0 w v n xs last tv) (hn : n ≤ 65536) (at_ t item : Int) (ht : t = 1 ∨ t = 2) :
    Calls Tryd.prog 13 #[v, .int .i64 at_, .int .i64 t, .int .i64 item] w fun e w' => ∃ tv', e = .returned (.int .i64 (putR xs at_ t item).2) ∧ JR B w0 w' v n (putR xs at_ t item).1 (putR xs at_ t item).2 tv' := by
  have hfz := h.freeze
  obtain ⟨cs, ho, hcs⟩ := h.cs
  by_cases hout : at_ < 0 ∨ (n : Int) - t < at_
  · obtain ⟨A, cap, rfl⟩ := crow_len ho
    refine (put_out A n cap at_ t item w hn ht hout).mono ?_
    rintro e w' ⟨rfl, rfl⟩
    have e1 : putR xs at_ t item = (xs, (xs.length : Int)) := by unfold putR; rw [h.len, if_pos hout]
    rw [e1, h.len]
    exact ⟨_, rfl, hfz⟩
  · have hn0 : ¬ at_ < 0 := fun e => hout (.inl e)
    have hn1 : ¬ (n : Int) - t < at_ := fun e => hout (.inr e)
    obtain ⟨k, rfl⟩ : ∃ k : Nat, at_ = k := ⟨at_.toNat, by omega⟩
    have hnp : 0 < n := by omega
    obtain ⟨rb, cap, rfl, hrb⟩ := crow_val ho hnp
    have hcl : cs.length = n * 3 := ho.1
    have hfrz := ho.frozenAt
    have cell : ∀ j, j < n * 3 → ∃ u, w.cell? ⟨rb, j, none⟩ = some u := fun j hj => ⟨_, (ho.cellAt j hj).trans (List.getElem?_eq_getElem (by omega))⟩
    rcases ht with rfl | rfl
    · obtain ⟨d0, q0⟩ := cell (k * 3) (by omega)
      obtain ⟨d1, q1⟩ := cell (k * 3 + 1) (by omega)
      obtain ⟨d2, q2⟩ := cell (k * 3 + 2) (by omega)
      refine (put_in1 B rb n cap k item cs w hn (by omega) d0 d1 d2 q0 q1 q2 hfrz).mono ?_
      rintro e w' ⟨rfl, rfl⟩
      have e1 : putR xs (k : Int) 1 item = (xs.set k ([], item, 0), (k : Int)) := by unfold putR; rw [h.len, if_neg hout, if_pos rfl, Int.toNat_natCast]
      rw [e1]
      exact ⟨_, rfl, hfz.lay k (by omega) item 0 k _ (.inr ⟨rfl, rfl, rfl⟩)⟩
    · obtain ⟨d0, q0⟩ := cell (k * 3) (by omega)
      obtain ⟨d1, q1⟩ := cell (k * 3 + 1) (by omega)
      obtain ⟨d2, q2⟩ := cell (k * 3 + 2) (by omega)
      obtain ⟨d3, q3⟩ := cell ((k + 1) * 3) (by omega)
      obtain ⟨d4, q4⟩ := cell ((k + 1) * 3 + 1) (by omega)
      obtain ⟨d5, q5⟩ := cell ((k + 1) * 3 + 2) (by omega)
      refine (put_in2 B rb n cap k item cs w hn (by omega) d0 d1 d2 d3 d4 d5 q0 q1 q2 q3 q4 q5 hfrz).mono ?_
      rintro e w' ⟨rfl, rfl⟩
      have e1 : putR xs (k : Int) 2 item = ((xs.set k ([], item, 0)).set (k + 1) ([], item, 1), (k : Int)) := by unfold putR; rw [h.len, if_neg hout, if_neg (by decide), Int.toNat_natCast]
      rw [e1]
      exact ⟨_, rfl, (hfz.lay k (by omega) item 0 k _ (.inr ⟨rfl, rfl, rfl⟩)).lay (k + 1) (by omega) item 1 k _ (.inl ⟨by omega, rfl, rfl⟩)⟩

theorem lit_cell (w : World) (g : Int) : ∀ (j : Nat) (u : Value), [Value.int .i32 g][j]? = some u → (w.alloc (.cells #[.int .i32 g] 21)).cell? ((⟨w.heap.size, 0, none⟩ : Addr).add j) = some u := by
  intro j u hj
  match j, hj with
  | 0, hj => simp at hj; subst hj; simp [Addr.add]
theorem lit_one (g : Int) : ∀ u ∈ [Value.int .i32 g], u.oneCell' = true := by
  intro u hu; simp at hu; subst hu; rfl

theorem grow_facts {B : Nat} {w w3 : World} {v' tv : Value} {rb l n cap m : Nat} {cs ys : List Value} {o : Go.Obj} (ho : w.ownsRow B 39 3 (.slice (some ⟨rb, 0, none⟩) n cap) n cs) (htb : ∀ b, tv.ownBlock = some b → B ≤ b ∧ (Value.slice (some ⟨rb, 0, none⟩) n cap).ownBlock ≠ some b) (hln : l < n)
    (hown : w3.ownsRow B 21 1 v' (m + 1) ys) (hg : (w.alloc o).grownBy w3 tv.ownBlock) :
    (∃ g' cap', v' = .slice (some ⟨g', 0, none⟩) (m + 1) cap') ∧ (∃ u, w3.cell? ⟨rb, l * 3, none⟩ = some u) ∧ w3.frozen? ⟨rb, l * 3, none⟩ = false ∧ True := by
  have hg0 : w.grownBy w3 tv.ownBlock := (World.grownBy_alloc w o _).trans hg
  have a1 := ho.kept hg0 (.inr fun e => (htb rb (by rw [← e]; rfl)).2 rfl)
  have hcl : cs.length = n * 3 := ho.1
  refine ⟨?_, ⟨_, (a1.cellAt (l * 3) (by omega)).trans (List.getElem?_eq_getElem (by omega))⟩, a1.frozenAt _, trivial⟩
  rcases hown.2 with ⟨_, h⟩ | ⟨g, c, cur, rfl, _⟩
  · omega
  · exact ⟨_, _, rfl⟩

set_option maxHeartbeats 4000000 in
set_option maxRecDepth 1000000 in
theorem row_main (A0 A1 : Option Addr) (c0 c1 : Nat) (gs ws : List Int) (fr : Int) (n : Nat) (w : World) (hla : Held w) (hn : n ≤ 65536) (hlen : gs.length = ws.length) (hgl : gs.length ≤ 4294967296)
    (hfr : -4294967296 ≤ fr ∧ fr ≤ 4294967296) (hbl : view_blanks_F n = some (List.replicate n ([32], -1, 0)))
    (hg : ∀ (k : Nat) (g : Int), gs[k]? = some g → ∃ ad, A0 = some ad ∧ ad.block < w.heap.size ∧ w.cell? (ad.add k) = some (.int .i32 g))
    (hw : ∀ (k : Nat) (g : Int), ws[k]? = some g → ∃ ad, A1 = some ad ∧ ad.block < w.heap.size ∧ w.cell? (ad.add k) = some (.int .i64 g)) :
    Calls Tryd.prog 8 #[.slice A0 gs.length c0, .slice A1 ws.length c1, .int .i64 fr, .int .i64 n] w fun e w' => ∃ rv last tv, e = .returned (.tuple #[rv, .nilIface]) ∧
      JR w.heap.size w w' rv n (rowSt n fr gs ws gs.length).1 last tv := by
  obtain ⟨i0, hi, hz0, hz1, hz2⟩ := info_parts info21
  go_enter Tryd.func8, Tryd.ntmps8
  go_wp2_with (first | (go_at_call 12; refine (view_blanks_ok.calls ((n : Int), ()) _ hbl w _ hla ⟨_, [], rfl, int_val _ _, rfl⟩).mono ?_; rintro e w1 ⟨v, rfl, hb1, hr1⟩))
  have hj1 : JR w.heap.size w w1 v n (List.replicate n (([32], -1, 0) : Cl)) n (.slice none 0 0) := JR.start List.length_replicate hb1 hr1
  clear hr1
  go_loopw [11, 12, 39] (fun c l i wr => ∃ (k : Nat) (tv : Value), k ≤ ws.length ∧ c = .int .i64 (rowSt n fr gs ws k).2.1 ∧ l = .int .i64 (rowSt n fr gs ws k).2.2 ∧ i = .int .i64 k ∧
      JR w.heap.size w wr v n (rowSt n fr gs ws k).1 (rowSt n fr gs ws k).2.2 tv)
    (fun _ _ i _ => ws.length - (intOf i).toNat)
  case atStart => exact ⟨0, _, Nat.zero_le _, rfl, rfl, rfl, hj1⟩
  case round =>
    obtain ⟨k, tv, hk, rfl, rfl, rfl, hj⟩ := hrel
    have hinv := rowSt_inv n fr gs ws k
    have htx := rowSt_txt n fr gs ws k
    have hstep : rowSt n fr gs ws (k + 1) = stepR n fr (rowSt n fr gs ws k) k (gs.getD k 0) (ws.getD k 0) := rfl
    by_cases hkl : k < ws.length
    · obtain ⟨g, hgk⟩ : ∃ g, gs[k]? = some g := ⟨_, List.getElem?_eq_getElem (by omega)⟩
      obtain ⟨wd, hwk⟩ : ∃ g, ws[k]? = some g := ⟨_, List.getElem?_eq_getElem hkl⟩
      obtain ⟨ad0, rfl, hb0, hc0⟩ := hg k g hgk
      obtain ⟨ad1, rfl, hb1', hc1⟩ := hw k wd hwk
      have hd0 : wr.cell? (ad0.add k) = some (.int .i32 g) := (hj.below.cell (by rw [add_block]; exact hb0)).trans hc0
      have hd1 : wr.cell? (ad1.add k) = some (.int .i64 wd) := (hj.below.cell (by rw [add_block]; exact hb1')).trans hc1
      rw [List.getD_eq_getElem?_getD, List.getD_eq_getElem?_getD, hgk, hwk, Option.getD_some, Option.getD_some] at hstep
      clear hg hw hgk hwk hc0 hc1 hj1 hb1
      generalize rowSt n fr gs ws k = s at *
      obtain ⟨xs, cell, last⟩ := s
      dsimp only at hj hinv htx hstep
      obtain ⟨i1, i2, i3, i4, i5⟩ := hinv
      by_cases hw0 : 0 < wd
      · obtain ⟨t2, ht2, hpos⟩ : ∃ t2, (t2 = 1 ∨ t2 = 2) ∧ two wd = t2 := ⟨two wd, by unfold two; split <;> omega, rfl⟩
        have hput := put_case hj hn (cell - fr) t2 k ht2
        have e0 : rowSt n fr gs ws (k + 1) = (if (putR xs (cell - fr) t2 k).2 < n then addR (putR xs (cell - fr) t2 k).1 (putR xs (cell - fr) t2 k).2 g else (putR xs (cell - fr) t2 k).1, cell + t2, (putR xs (cell - fr) t2 k).2) := by
          rw [hstep]
          unfold stepR
          rw [hpos, if_pos (by omega)]
        have hpl := putR_last xs (cell - fr) t2 k
        have hpt := putR_txt (a := cell - fr) (w := t2) (i := k) htx
        have hplen := putR_len xs (cell - fr) t2 k
        generalize putR xs (cell - fr) t2 k = pr at *
        obtain ⟨ys, l0⟩ := pr
        dsimp only at *
        have hw3 : wd = 1 ∨ wd = 2 ∨ 2 < wd := by omega
        have hw4 : (wd = 1 ∧ t2 = 1) ∨ (wd = 2 ∧ t2 = 2) ∨ (2 < wd ∧ t2 = 2) := by unfold two at hpos; split at hpos <;> omega
        clear hw3 hpos ht2 hstep htx hw0
        obtain ⟨l, rfl⟩ : ∃ l : Nat, l0 = l := ⟨l0.toNat, by omega⟩
        rcases hw4 with ⟨rfl, rfl⟩ | ⟨rfl, rfl⟩ | ⟨hw5, rfl⟩
        all_goals
          go_wp2_with fail
          refine hput.mono ?_
          rintro e w2 ⟨tv2, rfl, hj2⟩
          clear hput hj
          by_cases hll : (l : Int) < n
          · have hln : l < n := by omega
            rw [if_pos hll] at e0
            obtain ⟨x, hx⟩ : ∃ x, ys[l]? = some x := ⟨_, List.getElem?_eq_getElem (by rw [hj2.len]; exact hln)⟩
            have hxl := hpt l x hx
            have htb := hj2.tb
            obtain ⟨cs, ho, hcs⟩ := hj2.cs
            obtain ⟨rb, cap, rfl, hrb⟩ := crow_val ho (by omega)
            obtain ⟨t, k1, _, _, k4, _⟩ := hcs l x hx
            obtain ⟨rfl, htxt⟩ := k4 rfl
            have hc3 : x.1.length + 1 ≤ maxLen := by unfold maxLen; omega
            have hc4 : (x.1.length + 1) * 4 ≤ 140737488355328 := by omega
            have hc5 : w.heap.size ≤ (w2.alloc (.cells #[.int .i32 g] 21)).heap.size := by rw [World.size_alloc]; exact Nat.le_succ_of_le hj2.base
            have hcell : w2.cell? ⟨rb, l * 3, none⟩ = some t := (ho.cellAt (l * 3) (by omega)).trans k1
            clear hcs k4 k1 hpt
            go_wp2_with (first
              | (at_builtin; refine wpList_append_at _ rfl _ _ 25 rfl w.heap.size 21 i0 (.int .i32 0) 1 4 Tryd.underlying25 hi hz0 hz1 hz2 rfl (by decide) t x.1.length (x.1.map (Value.int .i32)) rfl (htxt.alloc _) ⟨w2.heap.size, 0, none⟩ 1 1 [.int .i32 g] rfl rfl (lit_cell _ _) (lit_one _) hc3 hc4 hc5 ?_))
            intro v' w3 hown' hgrow hloc
            obtain ⟨q1, ⟨u0, q2⟩, q3, _⟩ := grow_facts ho htb (rb := rb) (l := l) hln hown' hgrow
            obtain ⟨g', cap', rfl⟩ := q1
            have hj3 := hj2.grow hln _ hx g hown' hgrow hloc
            clear hown' hgrow hloc htxt ho
            go_wp2
            go_roundw
            case rel => exact ⟨k + 1, _, by omega, by rw [e0], by rw [e0], by go_num, by rw [e0]; exact hj3⟩
            case measure => simp [intOf]; omega
          · rw [if_neg hll] at e0
            go_wp2
            go_roundw
            case rel => exact ⟨k + 1, tv2, by omega, by rw [e0], by rw [e0], by go_num, by rw [e0]; exact hj2⟩
            case measure => simp [intOf]; omega
      · by_cases hll : last < n
        · obtain ⟨l, rfl⟩ : ∃ l : Nat, last = l := ⟨last.toNat, by omega⟩
          have hln : l < n := by omega
          have e1 : rowSt n fr gs ws (k + 1) = (addR xs l g, cell, (l : Int)) := by
            rw [hstep]
            unfold stepR
            have : ¬ 0 < two wd := by unfold two; split <;> omega
            rw [if_neg this, if_pos hll]
          obtain ⟨x, hx⟩ : ∃ x, xs[l]? = some x := ⟨_, List.getElem?_eq_getElem (by rw [hj.len]; exact hln)⟩
          have hxl := htx l x hx
          have htb := hj.tb
          obtain ⟨cs, ho, hcs⟩ := hj.cs
          obtain ⟨rb, cap, rfl, hrb⟩ := crow_val ho (by omega)
          obtain ⟨t, k1, _, _, k4, _⟩ := hcs l x hx
          obtain ⟨rfl, htxt⟩ := k4 rfl
          have hc3 : x.1.length + 1 ≤ maxLen := by unfold maxLen; omega
          have hc4 : (x.1.length + 1) * 4 ≤ 140737488355328 := by omega
          have hc5 : w.heap.size ≤ (wr.alloc (.cells #[.int .i32 g] 21)).heap.size := by rw [World.size_alloc]; exact Nat.le_succ_of_le hj.base
          have hcell : wr.cell? ⟨rb, l * 3, none⟩ = some t := (ho.cellAt (l * 3) (by omega)).trans k1
          clear hcs k4 k1
          go_wp2_with (first
            | (at_builtin; refine wpList_append_at _ rfl _ _ 25 rfl w.heap.size 21 i0 (.int .i32 0) 1 4 Tryd.underlying25 hi hz0 hz1 hz2 rfl (by decide) t x.1.length (x.1.map (Value.int .i32)) rfl (htxt.alloc _) ⟨wr.heap.size, 0, none⟩ 1 1 [.int .i32 g] rfl rfl (lit_cell _ _) (lit_one _) hc3 hc4 hc5 ?_))
          intro v' w3 hown' hgrow hloc
          obtain ⟨q1, ⟨u0, q2⟩, q3, _⟩ := grow_facts ho htb (rb := rb) (l := l) hln hown' hgrow
          obtain ⟨g', cap', rfl⟩ := q1
          have hj3 := hj.grow hln _ hx g hown' hgrow hloc
          clear hown' hgrow hloc htxt ho
          go_wp2
          go_roundw
          case rel => exact ⟨k + 1, _, by omega, by rw [e1], by rw [e1], by go_num, by rw [e1]; exact hj3⟩
          case measure => simp [intOf]; omega
        · have e1 : rowSt n fr gs ws (k + 1) = (xs, cell, last) := by
            rw [hstep]
            unfold stepR
            have : ¬ 0 < two wd := by unfold two; split <;> omega
            rw [if_neg this, if_neg hll]
          go_wp2
          go_roundw
          case rel => exact ⟨k + 1, tv, by omega, by rw [e1], by rw [e1], by go_num, by rw [e1]; exact hj⟩
          case measure => simp [intOf]; omega
    · have hkl : k = ws.length := by omega
      subst hkl
      go_wp2
      go_ret2
      exact ⟨_, _, _, rfl, by rw [hlen]; exact hj⟩
end Go.Proofs.YtcbmacpdiiehjaaDoor
