/-
  What api.Place and api.Number say of an error, as plain functions.
-/
import Derived.Test.YtnldcpanpojeiaaGreatDoorEvTold
namespace Go.Proofs.YtnldcpanpojeiaaGreatDoor
set_option linter.all false
open Go.RowKit Go.Extern.Stop Go.Stop Go.Extern

theorem cellSet (w : World) (b : Nat) (u v : Value) (h : w.cell? ⟨b, 0, none⟩ = some u) : (w.setCell ⟨b, 0, none⟩ v).cell? ⟨b, 0, none⟩ = some v := by
  unfold World.cell? at h ⊢
  unfold World.setCell
  simp only [Array.getElem?_modify, if_true]
  cases hh : w.heap[b]? with
  | none => rw [hh] at h; cases h
  | some o =>
    rw [hh] at h
    cases o with
    | cells c t f =>
      simp only [Option.map_some, Option.isSome_none, Bool.false_eq_true, if_false] at h ⊢
      have : 0 < c.size := by
        rcases Nat.eq_zero_or_pos c.size with e | e
        · rw [Array.getElem?_eq_none (by omega)] at h; cases h
        · exact e
      simp [this]
    | _ => cases h
theorem asFault2 (e : Addr) (b : Nat) (old : Value) (w : World) (hg : w.cell? ⟨0, 0, none⟩ = some (.iface 138 (.agg #[.pointer (some ⟨2, 24, none⟩)]))) (ht0 : w.cell? ⟨b, 0, none⟩ = some old) (hf0 : w.frozen? ⟨b, 0, none⟩ = false) :
    Calls Tryz.prog 17 #[.iface 52 (.pointer (some e)), .iface 54 (.pointer (some ⟨b, 0, none⟩))] w fun ev w' => ev = .returned (.bool true) ∧ Below b w w' ∧ w'.cell? ⟨b, 0, none⟩ = some (.pointer (some e)) := by
  have hb : b < w.heap.size := by
    rcases Nat.lt_or_ge b w.heap.size with h | h
    · exact h
    · simp [World.cell?, Array.getElem?_eq_none h] at ht0
  refine (asFault e ⟨b, 0, none⟩ old w hg ht0 hf0).mono fun ev w' hp => ?_
  obtain ⟨h1, rfl⟩ := hp
  refine ⟨h1, (((((Below.refl b w).alloc (by omega) _).alloc (by simp; omega) _).alloc (by simp; omega) _).alloc (by simp; omega) _).setCell (Nat.le_refl b) _, cellSet _ b old _ ?_⟩
  rw [World.cell?_alloc_lt _ _ ⟨b, 0, none⟩ (by simp; omega), World.cell?_alloc_lt _ _ ⟨b, 0, none⟩ (by simp; omega), World.cell?_alloc_lt _ _ ⟨b, 0, none⟩ (by simp; omega), World.cell?_alloc_lt _ _ ⟨b, 0, none⟩ hb]
  exact ht0
theorem asErrno2 (e : Addr) (k : Int) (b : Nat) (old : Value) (w : World) (hg : w.cell? ⟨0, 0, none⟩ = some (.iface 138 (.agg #[.pointer (some ⟨2, 24, none⟩)]))) (he : w.cell? e = some (.iface 26 (.int .i64 k))) (ht0 : w.cell? ⟨b, 0, none⟩ = some old) (hf0 : w.frozen? ⟨b, 0, none⟩ = false) :
    Calls Tryz.prog 17 #[.iface 52 (.pointer (some e)), .iface 100 (.pointer (some ⟨b, 0, none⟩))] w fun ev w' => ev = .returned (.bool true) ∧ Below b w w' ∧ w'.cell? ⟨b, 0, none⟩ = some (.int .i64 k) := by
  have hb : b < w.heap.size := by
    rcases Nat.lt_or_ge b w.heap.size with h | h
    · exact h
    · simp [World.cell?, Array.getElem?_eq_none h] at ht0
  refine (asErrno e ⟨b, 0, none⟩ k old w hg he ht0 hf0).mono fun ev w' hp => ?_
  obtain ⟨h1, rfl⟩ := hp
  refine ⟨h1, (((((Below.refl b w).alloc (by omega) _).alloc (by simp; omega) _).alloc (by simp; omega) _).alloc (by simp; omega) _).setCell (Nat.le_refl b) _, cellSet _ b old _ ?_⟩
  rw [World.cell?_alloc_lt _ _ ⟨b, 0, none⟩ (by simp; omega), World.cell?_alloc_lt _ _ ⟨b, 0, none⟩ (by simp; omega), World.cell?_alloc_lt _ _ ⟨b, 0, none⟩ (by simp; omega), World.cell?_alloc_lt _ _ ⟨b, 0, none⟩ hb]
  exact ht0
theorem placeNil (w : World) : Calls Tryz.prog 18 #[.nilIface] w fun ev w' => ev = .returned (.tuple #[.string ByteArray.empty, .int .i64 0]) ∧ Below w.heap.size w w' := by
  go_enter Tryz.func18, Tryz.ntmps18
  go_wp2_with (first | (go_at_call 17; refine (asNil _ _).mono ?_; rintro ev w' ⟨rfl, rfl⟩))
  go_ret2
  exact ⟨rfl, (Below.refl _ _).alloc (Nat.le_refl _) _⟩
theorem numberNil (w : World) : Calls Tryz.prog 19 #[.nilIface] w fun ev w' => ev = .returned (.int .i64 0) ∧ Below w.heap.size w w' := by
  go_enter Tryz.func19, Tryz.ntmps19
  go_wp2_with (first | (go_at_call 17; refine (asNil _ _).mono ?_; rintro ev w' ⟨rfl, rfl⟩))
  go_ret
  exact ⟨rfl, (Below.refl _ _).alloc (Nat.le_refl _) _⟩
theorem ext_at {w w' : World} (hx : Ext w w') {ad : Addr} {v : Value} (h : w.cell? ad = some v) : w'.cell? ad = some v := by
  have hb : ad.block < w.heap.size := by
    rcases Nat.lt_or_ge ad.block w.heap.size with h' | h'
    · exact h'
    · simp [World.cell?, Array.getElem?_eq_none h'] at h
  exact (World.cell?_of_block (hx.2 _ hb)).trans h
theorem wp2_light {P : Program} {Λ : List Nat} {ops : Array Oper} {Q K : Act → World → Prop} {a : Act} {w : World} {i : Nat} {o : Oper} (v : Value) (hi : ops[i]? = some o) (hs : isLight o = true) (hw : Region.wanted o (yielded ops a.tmps) = true)
    (hr : ∀ w' : World, (execOp a.eval o).run P w' = .ok (.value v) w') (hK : K (a.put o.dst v) w) : wp2 P Λ ops Q i K a w := by
  unfold wp2
  rw [hi]
  dsimp only
  rw [if_pos (by unfold softOp; rw [hs, Bool.or_true])]
  exact ⟨v, .inl ⟨hw, fun w' _ => hr w', fun _ => hr⟩, hK⟩
theorem wp2_read {P : Program} {Λ : List Nat} {ops : Array Oper} {Q K : Act → World → Prop} {a : Act} {w : World} {i : Nat} {o : Oper} (v : Value) (ad : Addr) (hi : ops[i]? = some o) (hs : softOp o = true) (hl : isLight o = false) (hw : Region.wanted o (yielded ops a.tmps) = true)
    (hc : ∀ w' : World, Ext w w' → w'.cell? ad = some v) (hr : ∀ w' : World, w'.cell? ad = some v → (execOp a.eval o).run P w' = .ok (.value v) w') (hK : K (a.put o.dst v) w) : wp2 P Λ ops Q i K a w := by
  unfold wp2
  rw [hi]
  dsimp only
  rw [if_pos hs]
  exact ⟨v, .inl ⟨hw, fun w' he => hr w' (hc w' he), fun h => by rw [hl] at h; cases h⟩, hK⟩
set_option maxHeartbeats 4000000 in
theorem placeSome (e : Addr) (s : ByteArray) (a : Int) (w : World) (hg : w.cell? ⟨0, 0, none⟩ = some (.iface 138 (.agg #[.pointer (some ⟨2, 24, none⟩)]))) (he : e.block < w.heap.size) (hs : w.cell? (e.add 1) = some (.string s)) (ha : w.cell? (e.add 2) = some (.int .i64 a)) :
    Calls Tryz.prog 18 #[.iface 52 (.pointer (some e))] w fun ev w' => ev = .returned (.tuple #[.string s, .int .i64 a]) ∧ Below w.heap.size w w' := by
  have hlt : 0 < w.heap.size := Held.lt hg
  have hgA : (w.alloc (.cells #[.pointer none] 52)).cell? ⟨0, 0, none⟩ = some (.iface 138 (.agg #[.pointer (some ⟨2, 24, none⟩)])) := by
    rw [World.cell?_alloc_lt _ _ ⟨0, 0, none⟩ hlt]; exact hg
  have hA : Below w.heap.size w (w.alloc (.cells #[.pointer none] 52)) := (Below.refl _ _).alloc (Nat.le_refl _) _
  go_enter Tryz.func18, Tryz.ntmps18
  go_wp2_with (first | (go_at_call 17; refine (asFault2 e w.heap.size (.pointer none) _ hgA (by simp) (by simp)).mono ?_; rintro ev w' ⟨rfl, hB, hC⟩; have hD : w'.cell? (e.add 1) = some (.string s) := ((hA.trans hB).cell (by rw [add_block]; exact he)).trans hs; have hE : w'.cell? (e.add 2) = some (.int .i64 a) := ((hA.trans hB).cell (by rw [add_block]; exact he)).trans ha; have hF := hA.trans hB; clear hA hB hgA))
  refine wp_region_pairs (Λ := []) (σ := [0, 1, 2, 3, 4, 5, 6, 7, 8, 9]) (by kernel_rfl) (by kernel_rfl) ?_
  have hC2 : w'.drew.cell? ⟨w.heap.size, 0, none⟩ = some (.pointer (some e)) := hC
  have hD2 : w'.drew.cell? (e.add 1) = some (.string s) := hD
  have hE2 : w'.drew.cell? (e.add 2) = some (.int .i64 a) := hE
  have hF2 := hF.drew
  change wp2s _ _ _ _ _ _ w'.drew
  generalize w'.drew = w' at *
  refine wp2_read (.pointer (some e)) ⟨w.heap.size, 0, none⟩ rfl rfl rfl rfl (fun w' hx => ext_at hx hC2) (fun w' hc => by simp [execOp, Act.eval, Act.put, Instr.loadAt, Instr.sureAddr, loadVar, isAgg, underlying, Tryz.underlying52, Tryz.underlying56, Tryz.underlying9, Tryz.underlying3, hc, Result.andThen]) ?_
  refine wp2_light (.pointer (some e)) rfl rfl rfl (fun w' => by simp [execOp, Act.eval, Act.put, Instr.fieldAt, Instr.sureAddr, fieldPlace, underlying, Tryz.underlying52, Tryz.underlying56, Tryz.underlying9, Tryz.underlying3, Result.andThen]) ?_
  refine wp2_light (.pointer (some (e.add 1))) rfl rfl rfl (fun w' => by simp [execOp, Act.eval, Act.put, Instr.fieldAt, Instr.sureAddr, fieldPlace, underlying, Tryz.underlying52, Tryz.underlying56, Tryz.underlying9, Tryz.underlying3, Result.andThen]) ?_
  refine wp2_read (.string s) (e.add 1) rfl rfl rfl rfl (fun w' hx => ext_at hx hD2) (fun w' hc => by simp [execOp, Act.eval, Act.put, Instr.loadAt, Instr.sureAddr, loadVar, isAgg, underlying, Tryz.underlying52, Tryz.underlying56, Tryz.underlying9, Tryz.underlying3, hc, Result.andThen]) ?_
  refine wp2_read (.pointer (some e)) ⟨w.heap.size, 0, none⟩ rfl rfl rfl rfl (fun w' hx => ext_at hx hC2) (fun w' hc => by simp [execOp, Act.eval, Act.put, Instr.loadAt, Instr.sureAddr, loadVar, isAgg, underlying, Tryz.underlying52, Tryz.underlying56, Tryz.underlying9, Tryz.underlying3, hc, Result.andThen]) ?_
  refine wp2_light (.pointer (some e)) rfl rfl rfl (fun w' => by simp [execOp, Act.eval, Act.put, Instr.fieldAt, Instr.sureAddr, fieldPlace, underlying, Tryz.underlying52, Tryz.underlying56, Tryz.underlying9, Tryz.underlying3, Result.andThen]) ?_
  refine wp2_light (.pointer (some (e.add 2))) rfl rfl rfl (fun w' => by simp [execOp, Act.eval, Act.put, Instr.fieldAt, Instr.sureAddr, fieldPlace, underlying, Tryz.underlying52, Tryz.underlying56, Tryz.underlying9, Tryz.underlying3, Result.andThen]) ?_
  refine wp2_read (.int .i64 a) (e.add 2) rfl rfl rfl rfl (fun w' hx => ext_at hx hE2) (fun w' hc => by simp [execOp, Act.eval, Act.put, Instr.loadAt, Instr.sureAddr, loadVar, isAgg, underlying, Tryz.underlying52, Tryz.underlying56, Tryz.underlying9, Tryz.underlying3, hc, Result.andThen]) ?_
  refine wp2_light (.string s) rfl rfl rfl (fun w' => by simp [execOp, Act.eval, Act.put, Instr.fieldAt, Instr.sureAddr, fieldPlace, underlying, Tryz.underlying52, Tryz.underlying56, Tryz.underlying9, Tryz.underlying3, Result.andThen]) ?_
  refine wp2_light (.int .i64 a) rfl rfl rfl (fun w' => by simp [execOp, Act.eval, Act.put, Instr.fieldAt, Instr.sureAddr, fieldPlace, underlying, Tryz.underlying52, Tryz.underlying56, Tryz.underlying9, Tryz.underlying3, Result.andThen]) ?_
  unfold wp2s
  clear hC hD hE hF hC2 hD2 hE2 hg hs ha
  simp [Act.put, Act.eval]
  go_wp2
  go_ret2
  exact ⟨rfl, hF2⟩
set_option maxHeartbeats 4000000 in
theorem numberSome (e : Addr) (k : Int) (w : World) (hg : w.cell? ⟨0, 0, none⟩ = some (.iface 138 (.agg #[.pointer (some ⟨2, 24, none⟩)]))) (he : w.cell? e = some (.iface 26 (.int .i64 k))) :
    Calls Tryz.prog 19 #[.iface 52 (.pointer (some e))] w fun ev w' => ev = .returned (.int .i64 k) ∧ Below w.heap.size w w' := by
  have hlt : 0 < w.heap.size := Held.lt hg
  have hel : e.block < w.heap.size := by
    rcases Nat.lt_or_ge e.block w.heap.size with h | h
    · exact h
    · simp [World.cell?, Array.getElem?_eq_none h] at he
  have hgA : (w.alloc (.cells #[.int .i64 0] 26)).cell? ⟨0, 0, none⟩ = some (.iface 138 (.agg #[.pointer (some ⟨2, 24, none⟩)])) := by
    rw [World.cell?_alloc_lt _ _ ⟨0, 0, none⟩ hlt]; exact hg
  have heA : (w.alloc (.cells #[.int .i64 0] 26)).cell? e = some (.iface 26 (.int .i64 k)) := by
    rw [World.cell?_alloc_lt _ _ e hel]; exact he
  have hA : Below w.heap.size w (w.alloc (.cells #[.int .i64 0] 26)) := (Below.refl _ _).alloc (Nat.le_refl _) _
  go_enter Tryz.func19, Tryz.ntmps19
  go_wp2_with (first | (go_at_call 17; refine (asErrno2 e k w.heap.size (.int .i64 0) _ hgA heA (by simp) (by simp)).mono ?_; rintro ev w' ⟨rfl, hB, hC⟩; have hF := hA.trans hB; clear hA hB hgA heA))
  go_ret
  exact ⟨rfl, hF⟩
theorem place_ok : FunOk Tryz.prog 18 ⟨[.err 52 26], [.v .str, .v (.int .i64)], fun x => some (match x.1 with | none => (ByteArray.empty, 0) | some y => (y.2.1, y.2.2))⟩ := by
  refine ⟨⟨_, _, Tryz.func18, by kernel_rfl, rfl⟩, fun x r hr w args hla hargs => ?_⟩
  cases hr
  obtain ⟨x, u⟩ := x
  obtain ⟨v1, r1, e1, h1, e2⟩ := hargs
  have e2 : r1 = [] := e2
  have hg := hla 0 _ rfl
  obtain ⟨cs, k1, k2⟩ := h1
  have hall : args = #[v1] := by
    apply Array.toList_inj.1
    rw [e1, e2]
  subst hall
  cases x with
  | none =>
    have k1 : cs = [.nilIface] := k1
    subst k1
    have k2 : v1 = .nilIface := k2
    subst k2
    refine (placeNil w).mono fun e w' hp => ?_
    obtain ⟨rfl, hb⟩ := hp
    exact ⟨_, rfl, hb, [.string ByteArray.empty, .int .i64 0], rfl, List.nodup_nil, _, _, rfl, ⟨[.string ByteArray.empty], rfl, rfl⟩, _, rfl, ⟨[.int .i64 0], rfl, rfl⟩⟩
  | some y =>
    obtain ⟨n, s, a⟩ := y
    obtain ⟨ad, h0, _, hl, c0, c1, c2⟩ := k1
    subst h0
    have k2 : v1 = .iface 52 (.pointer (some ad)) := k2
    subst k2
    refine (placeSome ad s a w hg hl c1 c2).mono fun e w' hp => ?_
    obtain ⟨rfl, hb⟩ := hp
    exact ⟨_, rfl, hb, [.string s, .int .i64 a], rfl, List.nodup_nil, _, _, rfl, ⟨[.string s], rfl, rfl⟩, _, rfl, ⟨[.int .i64 a], rfl, rfl⟩⟩
theorem number_ok : FunOk Tryz.prog 19 ⟨[.err 52 26], [.v (.int .i64)], fun x => some (match x.1 with | none => 0 | some y => y.1)⟩ := by
  refine ⟨⟨_, _, Tryz.func19, by kernel_rfl, rfl⟩, fun x r hr w args hla hargs => ?_⟩
  cases hr
  obtain ⟨x, u⟩ := x
  obtain ⟨v1, r1, e1, h1, e2⟩ := hargs
  have e2 : r1 = [] := e2
  have hg := hla 0 _ rfl
  obtain ⟨cs, k1, k2⟩ := h1
  have hall : args = #[v1] := by
    apply Array.toList_inj.1
    rw [e1, e2]
  subst hall
  cases x with
  | none =>
    have k1 : cs = [.nilIface] := k1
    subst k1
    have k2 : v1 = .nilIface := k2
    subst k2
    refine (numberNil w).mono fun e w' hp => ?_
    obtain ⟨rfl, hb⟩ := hp
    exact ⟨_, rfl, hb, [.int .i64 0], rfl, List.nodup_nil, _, rfl, ⟨[.int .i64 0], rfl, rfl⟩⟩
  | some y =>
    obtain ⟨n, s, a⟩ := y
    obtain ⟨ad, h0, _, hl, c0, c1, c2⟩ := k1
    subst h0
    have k2 : v1 = .iface 52 (.pointer (some ad)) := k2
    subst k2
    refine (numberSome ad n w hg c0).mono fun e w' hp => ?_
    obtain ⟨rfl, hb⟩ := hp
    exact ⟨_, rfl, hb, [.int .i64 n], rfl, List.nodup_nil, _, rfl, ⟨[.int .i64 n], rfl, rfl⟩⟩
end Go.Proofs.YtnldcpanpojeiaaGreatDoor
