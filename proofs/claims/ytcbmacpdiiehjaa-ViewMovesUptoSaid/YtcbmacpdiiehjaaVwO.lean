/-
  The statements ViewRow and ViewMoves over their readings: the ends.
-/
import Derived.Test.YtcbmacpdiiehjaaVwN
namespace Go.Proofs.Ytcbmacpdiiehjaa
set_option linter.all false

theorem rb32 : (!((runesBytes [32]).toList == (ByteArray.mk #[32]).toList)) = false := by decide +kernel
theorem rb0 : (!((runesBytes []).toList == (ByteArray.mk #[]).toList)) = false := by decide +kernel
theorem row_F {gs ws : List Int} {fr : Int} {n : Nat} (hl : gs.length = ws.length) (hn : ws.length ≤ 2097152) (hf : -4294967296 ≤ fr ∧ fr ≤ 4294967296) (hc : n ≤ 65536) : view_Row_F gs ws fr (n : Int) = some ((rowSt n fr gs ws ws.length).1, none) := by
  unfold view_Row_F
  rw [if_neg (by omega), if_neg (by omega), if_pos ⟨hf.1, hf.2, by omega⟩, Int.toNat_natCast, hl]

theorem viewRow_loop {gs ws : List Int} {fr : Int} {n : Nat} (hs : SmallW ws) (hl : gs.length = ws.length) (hn : ws.length ≤ 2097152) (hf : -4294967296 ≤ fr ∧ fr ≤ 4294967296) (hc : n ≤ 65536) :
    ∃ r, loopW (fun s : List Int × List Int × Int × Int × List (List Int × Int × Int) × Int × Int => (law36_ViewRow_L9 s.1 s.2.1 s.2.2.1 s.2.2.2.1 s.2.2.2.2.1 s.2.2.2.2.2.1 s.2.2.2.2.2.2).run) (gs, ws, fr, (n : Int), (rowSt n fr gs ws ws.length).1, ((rowSt n fr gs ws ws.length).1.length : Int), 0) = some r ∧ r = .inl () := by
  have hrl := row_len (n := n) (fr := fr) (gs := gs) (ws := ws)
  obtain ⟨row, hrow⟩ : ∃ row, row = (rowSt n fr gs ws ws.length).1 := ⟨_, rfl⟩
  have hblank : ∀ i : Nat, i < n → (∀ j, j < ws.length → 0 < ws.getD j 0 → Ins n fr ws j → ¬ (sumW ws j - fr ≤ i ∧ (i : Int) < sumW ws j - fr + ws.getD j 0)) → row[i]? = some ([32], -1, 0) := fun i hi h => by rw [hrow]; exact row_blank hs hi h
  have hitem : ∀ j, j < ws.length → 0 < ws.getD j 0 → Ins n fr ws j → ∀ t : Nat, (t : Int) < ws.getD j 0 → row[(sumW ws j - fr).toNat + t]? = some (if t = 0 then gs.getD j 0 :: sh gs ws (j + 1) else [], (j : Int), (t : Int)) := fun j hj hp hi t ht => by rw [hrow]; exact row_item hs hj hp hi ht
  rw [← hrow] at hrl ⊢
  rw [hrl]
  refine loop_ex (L := fun s : List Int × List Int × Int × Int × List (List Int × Int × Int) × Int × Int => law36_ViewRow_L9 s.1 s.2.1 s.2.2.1 s.2.2.2.1 s.2.2.2.2.1 s.2.2.2.2.2.1 s.2.2.2.2.2.2)
    (I := fun s => ∃ k : Nat, k ≤ n ∧ s = (gs, ws, fr, (n : Int), row, (n : Int), (k : Int))) (m := fun s => n - s.2.2.2.2.2.2.toNat) (R := fun r => r = .inl ()) ?_ ⟨0, Nat.zero_le _, rfl⟩
  rintro s ⟨i, hi, rfl⟩
  dsimp only
  refine Post.br (fun hlt => ?_) (fun _ => Post.pure rfl)
  have hlt := of_decide_eq_true hlt
  have hin : i < n := by omega
  have nx : (∃ k : Nat, k ≤ n ∧ (gs, ws, fr, (n : Int), row, (n : Int), IntKind.i64.wrap ((i : Int) + 1)) = (gs, ws, fr, (n : Int), row, (n : Int), (k : Int))) ∧ n - (IntKind.i64.wrap ((i : Int) + 1)).toNat < n - ((i : Int)).toNat := by
    rw [wrap_succ (by omega)]
    exact ⟨⟨i + 1, by omega, rfl⟩, by omega⟩
  rw [wrap64 (n := fr + (i : Int)) (by omega) (by omega)]
  rcases at_F hs hn (fr + i) (by omega) with ⟨j, hj, hh, hat⟩ | ⟨hno, hat⟩
  · have hh' := hh
    obtain ⟨b1, b2⟩ := hh'
    have hp : 0 < ws.getD j 0 := by omega
    have bj := sumW_bd hs j
    have h2 := hs.le j
    have only : ∀ j', j' < ws.length → 0 < ws.getD j' 0 → Ins n fr ws j' → ¬ Ins n fr ws j → ¬ (sumW ws j' - fr ≤ i ∧ (i : Int) < sumW ws j' - fr + ws.getD j' 0) := by
      intro j' hj' hp' hi' hni h
      have : Has ws (fr + i) j' := ⟨by omega, by omega⟩
      have e := has_one hs this hh
      subst e
      exact hni hi'
    have e1 : IntKind.i64.wrap ((i : Int) - (fr + i - sumW ws j)) = sumW ws j - fr := by rw [wrap64 (by omega) (by omega)]; omega
    have e2 : IntKind.i64.wrap (sumW ws j - fr + ws.getD j 0) = sumW ws j - fr + ws.getD j 0 := wrap64 (by omega) (by omega)
    by_cases hins : Ins n fr ws j
    · have hins' := hins
      obtain ⟨q1, q2⟩ := hins'
      obtain ⟨t, ht⟩ : ∃ t : Nat, fr + i - sumW ws j = t := ⟨(fr + i - sumW ws j).toNat, by omega⟩
      have hx := hitem j hj hp hins t (by omega)
      rw [show (sumW ws j - fr).toNat + t = i by omega] at hx
      refine Post.bnd (idx_of rfl hx) (Post.bnd hat (Post.brT (decide_eq_true (by dsimp only; omega)) ?_))
      dsimp only
      rw [e1]
      refine Post.brF (decide_eq_false (by omega)) (Post.idx 0 j rfl hj ?_)
      rw [e2]
      refine Post.brF (decide_eq_false (by omega)) (Post.brF (decide_eq_false (by omega)) ?_)
      rw [ht]
      by_cases ht0 : t = 0
      · subst ht0
        refine Post.brT (by rfl) (Post.bnd (shown_F hl hn hj) (Post.bnd rfl (Post.brF (by simp) (Post.bnd rfl (Post.brF (by simp) (Post.bnd rfl (Post.brF ?_ (Post.pure nx))))))))
        simp
      · refine Post.brF (by simp; omega) (Post.bnd rfl (Post.brF (by simp) (Post.bnd rfl (Post.brF (by simp) (Post.bnd rfl (Post.brF ?_ (Post.pure nx)))))))
        dsimp only
        rw [if_neg ht0]
        exact rb0
    · have hx := hblank i hin (fun j' a b c => only j' a b c hins)
      refine Post.bnd (idx_of rfl hx) (Post.bnd hat (Post.brT (decide_eq_true (by dsimp only; omega)) ?_))
      dsimp only
      rw [e1]
      by_cases hneg : sumW ws j - fr < 0
      · exact Post.brT (decide_eq_true hneg) (Post.brT rfl (Post.bnd rfl (Post.brF rfl (Post.bnd rfl (Post.brF rfl (Post.bnd rfl (Post.brF rb32 (Post.pure nx))))))))
      · refine Post.brF (decide_eq_false hneg) (Post.idx 0 j rfl hj ?_)
        rw [e2]
        have hgt : sumW ws j - fr + ws.getD j 0 > n := by unfold Ins at hins; omega
        exact Post.brT (decide_eq_true hgt) (Post.brT rfl (Post.bnd rfl (Post.brF rfl (Post.bnd rfl (Post.brF rfl (Post.bnd rfl (Post.brF rb32 (Post.pure nx))))))))
  · have hx := hblank i hin (fun j a b c d => hno j a ⟨by omega, by omega⟩)
    exact Post.bnd (idx_of rfl hx) (Post.bnd hat (Post.brF rfl (Post.brT rfl (Post.bnd rfl (Post.brF rfl (Post.bnd rfl (Post.brF rfl (Post.bnd rfl (Post.brF rb32 (Post.pure nx))))))))))

theorem viewRow_F (ns ws0 : List Int) (fr cnt : Int) (h1 : ns.length ≤ 2097152) (h2 : ws0.length ≤ 2097152) (h8 : ∀ n ∈ ws0, 0 ≤ n ∧ n ≤ 255) (hf : -32768 ≤ fr ∧ fr ≤ 32767) (hc : 0 ≤ cnt ∧ cnt ≤ 255) : law36_ViewRow_F ns ws0 fr cnt = some true := by
  obtain ⟨gs, hgs, hgl⟩ := line_F ns ws0 h1 h2 h8
  obtain ⟨n, rfl⟩ := Int.eq_ofNat_of_zero_le hc.1
  have hsm : SmallW (tab (min ns.length ws0.length) (fun i => (ws0.getD i 0) % 3)) := by
    have h : ∀ k, 0 ≤ (tab (min ns.length ws0.length) (fun i => (ws0.getD i 0) % 3)).getD k 0 ∧ (tab (min ns.length ws0.length) (fun i => (ws0.getD i 0) % 3)).getD k 0 ≤ 2 := by
      intro k
      by_cases hk : k < min ns.length ws0.length
      · rw [tab_getD _ _ hk]; omega
      · rw [getD_len (by rw [tab_len]; omega)]; omega
    exact ⟨fun k => (h k).1, fun k => (h k).2⟩
  have hwl : (tab (min ns.length ws0.length) (fun i => (ws0.getD i 0) % 3)).length = min ns.length ws0.length := tab_len _ _
  generalize tab (min ns.length ws0.length) (fun i => (ws0.getD i 0) % 3) = ws at *
  unfold law36_ViewRow_F
  refine Post.run (Post.bnd awake_F (Post.brF rfl (Post.bnd hgs ?_)))
  dsimp only
  rw [wrap64 (n := fr) (by omega) (by omega), wrap64 (n := (n : Int)) (by omega) (by omega)]
  refine Post.bnd (row_F (by omega) (by omega) (by omega) (by omega)) (Post.brF rfl (Post.brF ?_ ?_))
  · dsimp only
    rw [row_len]
    simp
  · dsimp only
    exact Post.alt (viewRow_loop hsm (by omega) (by omega) (by omega) (by omega)) (fun b hb => Post.pure rfl) (fun c hc => by cases hc)

theorem viewRow_all (x : Tys.I [.sl (.int .u8), .sl (.int .u8), .int .i16, .int .u8]) (h : WfAll [.sl (.int .u8), .sl (.int .u8), .int .i16, .int .u8] x) (hb : bulkAll [.sl (.int .u8), .sl (.int .u8), .int .i16, .int .u8] x ≤ 1048576) : law36_ViewRow_F x.1 x.2.1 x.2.2.1 x.2.2.2.1 = some true := by
  simp only [bulkAll, bulk] at hb
  have h16 : -32768 ≤ x.2.2.1 ∧ x.2.2.1 ≤ 32767 := by simpa [Wf, Lit.wf, IntKind.min, IntKind.max, IntKind.signed, IntKind.bits] using h.2.2.1
  exact viewRow_F _ _ _ _ (by omega) (by omega) (fun n hn => wf_u8 (h.2.1.2 n hn)) h16 (wf_u8 h.2.2.2.1)

/-! ### ViewMoves -/
theorem ones_small (m : Nat) : SmallW (tab m (fun _ => (1 : Int))) := by
  have h : ∀ k, 0 ≤ (tab m (fun _ => (1 : Int))).getD k 0 ∧ (tab m (fun _ => (1 : Int))).getD k 0 ≤ 2 := by
    intro k
    by_cases hk : k < m
    · rw [tab_getD _ _ hk]; omega
    · rw [getD_len (by rw [tab_len]; omega)]; omega
  exact ⟨fun k => (h k).1, fun k => (h k).2⟩
theorem ones_sum (m : Nat) : ∀ k, k ≤ m → sumW (tab m (fun _ => (1 : Int))) k = k
  | 0, _ => rfl
  | k + 1, hk => by
    show sumW _ k + _ = _
    rw [ones_sum m k (by omega), tab_getD _ _ (by omega)]
    omega
theorem ones_row {m : Nat} (gs : List Int) (fr : Int) (n : Nat) (i : Nat) (hi : i < n) : (rowSt n fr gs (tab m (fun _ => (1 : Int))) m).1[i]? = some (if 0 ≤ fr + i ∧ fr + i < m then ([gs.getD (fr + i).toNat 0], fr + i, 0) else ([32], -1, 0)) := by
  have hs := ones_small m
  have hl : (tab m (fun _ => (1 : Int))).length = m := tab_len _ _
  have hR : (rowSt n fr gs (tab m (fun _ => (1 : Int))) m).1 = (rowSt n fr gs (tab m (fun _ => (1 : Int))) (tab m (fun _ => (1 : Int))).length).1 := by rw [hl]
  rw [hR]
  by_cases h : 0 ≤ fr + i ∧ fr + i < m
  · rw [if_pos h]
    obtain ⟨j, hj⟩ : ∃ j : Nat, fr + i = j := ⟨(fr + i).toNat, by omega⟩
    have hjm : j < m := by omega
    have e1 : (tab m (fun _ => (1 : Int))).getD j 0 = 1 := tab_getD _ _ hjm
    have e2 := ones_sum m j (by omega)
    have := row_item (n := n) (fr := fr) (gs := gs) hs (j := j) (by omega) (by omega) (by unfold Ins; rw [e1, e2]; omega) (t := 0) (by rw [e1]; decide)
    rw [e2, show ((j : Int) - fr).toNat + 0 = i by omega, if_pos rfl] at this
    rw [this, hj, Int.toNat_natCast]
    have : sh gs (tab m (fun _ => (1 : Int))) (j + 1) = [] := by
      rcases Nat.lt_or_ge (j + 1) m with h' | h'
      · exact sh_pos (by rw [tab_getD _ _ h']; decide)
      · exact sh_end (by omega)
    rw [this]
    rfl
  · rw [if_neg h]
    refine row_blank hs hi fun j hj hp hin hc => ?_
    rw [hl] at hj
    rw [ones_sum m j (by omega), tab_getD _ _ hj] at hc
    omega

theorem viewMoves_F (ns : List Int) (fr cnt : Int) (h1 : ns.length ≤ 1048576) (hf : -32768 ≤ fr ∧ fr ≤ 32767) (hc : 0 ≤ cnt ∧ cnt ≤ 255) : law36_ViewMoves_F ns fr cnt = some true := by
  obtain ⟨n, rfl⟩ := Int.eq_ofNat_of_zero_le hc.1
  unfold law36_ViewMoves_F
  refine Post.run (Post.bnd awake_F (Post.brF rfl (Post.bnd (count ns.length (fun k => (ns, fr, (n : Int), tab k (fun _ => (1 : Int)), (ns.length : Int), (k : Int))) (r := (ns, fr, (n : Int), tab ns.length (fun _ => (1 : Int)))) rfl (fun k hk => ?_) ?_) ?_)))
  · dsimp only
    refine Post.brT (decide_eq_true (by omega)) (Post.bnd (app_eq (by simp only [tab_len, List.length_cons, List.length_nil]; omega)) (Post.pure ?_))
    rw [wrap_succ (by omega), tab_succ k (fun _ => (1 : Int))]
  · exact Post.brF (decide_eq_false (by dsimp only; omega)) (Post.pure rfl)
  · dsimp only
    obtain ⟨gs, hgs, hgl⟩ := line_F ns (tab ns.length (fun _ => (1 : Int))) (by omega) (by rw [tab_len]; omega) (fun x hx => by
      simp only [tab, List.mem_map] at hx
      obtain ⟨_, _, rfl⟩ := hx
      omega)
    obtain ⟨m, hm⟩ : ∃ m, m = ns.length := ⟨_, rfl⟩
    rw [tab_len, Nat.min_self] at hgl hgs
    have ew : tab ns.length (fun i => (tab ns.length (fun _ => (1 : Int))).getD i 0 % 3) = tab ns.length (fun _ => (1 : Int)) := tab_congr fun k hk => by rw [tab_getD _ _ hk]; decide
    rw [ew] at hgs
    rw [← hm] at hgs hgl h1 ⊢
    have hwl : (tab m (fun _ => (1 : Int))).length = m := tab_len _ _
    refine Post.bnd hgs ?_
    dsimp only
    rw [wrap64 (n := fr) (by omega) (by omega), wrap64 (n := (n : Int)) (by omega) (by omega), wrap64 (n := (n : Int) + 1) (by omega) (by omega), wrap64 (n := fr + 1) (by omega) (by omega)]
    have ra := row_F (gs := gs) (ws := tab m (fun _ => (1 : Int))) (fr := fr) (n := n + 1) (by omega) (by omega) (by omega) (by omega)
    have rb := row_F (gs := gs) (ws := tab m (fun _ => (1 : Int))) (fr := fr + 1) (n := n) (by omega) (by omega) (by omega) (by omega)
    have la := row_len (n := n + 1) (fr := fr) (gs := gs) (ws := tab m (fun _ => (1 : Int)))
    have lb := row_len (n := n) (fr := fr + 1) (gs := gs) (ws := tab m (fun _ => (1 : Int)))
    rw [hwl] at ra rb la lb
    have ga := ones_row (m := m) gs fr (n + 1)
    have gb := ones_row (m := m) gs (fr + 1) n
    generalize (rowSt (n + 1) fr gs (tab m (fun _ => (1 : Int))) m).1 = A at *
    generalize (rowSt n (fr + 1) gs (tab m (fun _ => (1 : Int))) m).1 = C at *
    refine Post.bnd ra (Post.bnd rb (Post.brF rfl (Post.brF rfl (Post.brF (by simp [la]) (Post.brF (by simp [lb]) (Post.alt (R := fun r => r = .inl ()) ?_ (fun b hb => Post.pure rfl) (fun c hc => by cases hc)))))))
    dsimp only
    rw [lb]
    refine loop_ex (L := fun s : List (List Int × Int × Int) × List (List Int × Int × Int) × Int × Int => law36_ViewMoves_L14 s.1 s.2.1 s.2.2.1 s.2.2.2)
      (I := fun s => ∃ k : Nat, k ≤ n ∧ s = (A, C, (n : Int), (k : Int))) (m := fun s => n - s.2.2.2.toNat) (R := fun r => r = .inl ()) ?_ ⟨0, Nat.zero_le _, rfl⟩
    rintro s ⟨k, hk, rfl⟩
    dsimp only
    refine Post.br (fun hlt => ?_) (fun _ => Post.pure rfl)
    have hlt := of_decide_eq_true hlt
    have xa := ga (k + 1) (by omega)
    have xb := gb k (by omega)
    rw [show fr + 1 + (k : Int) = fr + ((k + 1 : Nat) : Int) by omega] at xb
    generalize (if 0 ≤ fr + ((k + 1 : Nat) : Int) ∧ fr + ((k + 1 : Nat) : Int) < m then ([gs.getD (fr + ((k + 1 : Nat) : Int)).toNat 0], fr + ((k + 1 : Nat) : Int), (0 : Int)) else ([32], -1, 0)) = z at *
    rw [wrap_succ (by omega)]
    have ia := idx_of (i := ((k + 1 : Nat) : Int)) rfl xa
    have ib := idx_of (i := (k : Int)) rfl xb
    refine Post.bnd ia (Post.bnd ib (Post.brF (by simp) (Post.bnd ia (Post.bnd ib (Post.brF (by simp) (Post.bnd ia (Post.bnd ib (Post.brF (by simp) (Post.pure ?_)))))))))
    refine ⟨⟨k + 1, by omega, rfl⟩, ?_⟩
    dsimp only
    omega

theorem viewMoves_all (x : Tys.I [.sl (.int .u8), .int .i16, .int .u8]) (h : WfAll [.sl (.int .u8), .int .i16, .int .u8] x) (hb : bulkAll [.sl (.int .u8), .int .i16, .int .u8] x ≤ 1048576) : law36_ViewMoves_F x.1 x.2.1 x.2.2.1 = some true := by
  simp only [bulkAll, bulk] at hb
  have h16 : -32768 ≤ x.2.1 ∧ x.2.1 ≤ 32767 := by simpa [Wf, Lit.wf, IntKind.min, IntKind.max, IntKind.signed, IntKind.bits] using h.2.1
  exact viewMoves_F _ _ _ (by omega) h16 (wf_u8 h.2.2.1)

end Go.Proofs.Ytcbmacpdiiehjaa
