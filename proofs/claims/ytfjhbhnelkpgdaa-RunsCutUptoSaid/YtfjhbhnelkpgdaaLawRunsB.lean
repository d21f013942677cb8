/-
  The laws of runs return true: levels that are raised.
-/
import Derived.Test.YtfjhbhnelkpgdaaLawRuns
namespace Go.Proofs.Ytfjhbhnelkpgdaa

theorem runsOf_ne (lv : Nat → Int) (n : Nat) : ∀ r ∈ runsOf lv n, r ≠ [] := by
  intro r hr
  have ha := runsAt lv n
  unfold runsOf at hr
  cases h2 : (runsTo lv n).2 with
  | nil =>
    rw [h2] at hr
    exact (ha.old r hr).1
  | cons p q =>
    rw [h2] at hr
    rcases List.mem_append.1 hr with h | h
    · exact (ha.old r h).1
    · simp only [List.mem_singleton] at h
      subst h; simp

/-- only where levels are alike counts -/
theorem runsTo_same {lv mv : Nat → Int} : ∀ {n : Nat}, (∀ i, i < n → (lv i = -1 ↔ mv i = -1)) → (∀ i j, i < n → j < n → lv i ≠ -1 → lv j ≠ -1 → (lv i = lv j ↔ mv i = mv j)) → runsTo lv n = runsTo mv n
  | 0, _, _ => rfl
  | n + 1, h1, h2 => by
    have ih := runsTo_same (n := n) (fun i hi => h1 i (by omega)) (fun i j hi hj => h2 i j (by omega) (by omega))
    have ha := runsAt lv n
    unfold runsTo
    rw [← ih]
    generalize runsTo lv n = s at ha
    obtain ⟨a, run⟩ := s
    by_cases h : lv n = -1
    · rw [runStep_skip h, runStep_skip ((h1 n (by omega)).1 h)]
    · have h' : mv n ≠ -1 := fun e => h ((h1 n (by omega)).2 e)
      cases run with
      | nil => rw [runStep_first h, runStep_first h']
      | cons p r =>
        obtain ⟨q, hq, rfl, hq1⟩ := ha.new p (by simp)
        have e2 := h2 q n (by omega) (by omega) hq1 h
        by_cases e : lv q = lv n
        · rw [runStep_more h (by simpa using e), runStep_more h' (by simpa using e2.1 e)]
        · rw [runStep_new h (by simpa using e), runStep_new h' (by simpa using fun x => e (e2.2 x))]

theorem runsTo_const : ∀ n : Nat, runsTo (fun _ => (3 : Int)) n = ([], tab n (fun i => (i : Int)))
  | 0 => rfl
  | n + 1 => by
    unfold runsTo
    rw [runsTo_const n, ← tab_succ n (fun i => (i : Int))]
    cases n with
    | zero => rfl
    | succ n =>
      have : ∃ p r, tab (n + 1) (fun i => (i : Int)) = p :: r := by
        cases h : tab (n + 1) (fun i => (i : Int)) with
        | nil =>
          have := congrArg List.length h
          rw [tab_len] at this
          simp at this
        | cons p r => exact ⟨p, r, rfl⟩
      obtain ⟨p, r, e⟩ := this
      rw [e, runStep_more (lv := fun _ => (3 : Int)) (i := n + 1) (a := []) (p := p) (r := r) (by simp) rfl]

theorem runsEven_true (ns : List Int) (by_ : Int) (hn : ns.length ≤ 2097152) (h8 : ∀ n ∈ ns, 0 ≤ n ∧ n ≤ 255) (hb : 0 ≤ by_ ∧ by_ ≤ 255) : law12_RunsEven_F ns by_ = some true := by
  unfold law12_RunsEven_F law12_RunsEven_T
  have hz : ∀ z : Int, List.replicate ns.length z = tab ns.length (fun _ => z) := fun z => tab_rep _ z
  rw [Tr.run_bnd_some awake12, Tr.run_br, if_neg (by simp), Tr.run_bnd_some (levels_F ns hn h8), tab_len, Tr.run_bnd_some (mk_eq rfl (by omega)), Tr.run_bnd_some (mk_eq rfl (by omega)), hz]
  have hl := loopW_count (f := fun s : Int × List Int × List Int × List Int × Int => (law12_RunsEven_L7 s.1 s.2.1 s.2.2.1 s.2.2.2.1 s.2.2.2.2).run) ns.length
    (fun k => (by_, tab ns.length (lev ns), tab ns.length (fun i => if i < k then (if lev ns i = -1 then -1 else lev ns i + by_) else 0), tab ns.length (fun i => if i < k then 3 else 0), (k : Int)))
    (r := (tab ns.length (lev ns), tab ns.length (fun i => if lev ns i = -1 then -1 else lev ns i + by_), tab ns.length (fun _ => 3))) ?_ ?_
  · have e0 : ∀ (g : Nat → Int), tab ns.length (fun i => if i < 0 then g i else 0) = tab ns.length (fun _ => 0) := fun g => tab_congr fun i _ => by simp
    rw [show ((0 : Nat) : Int) = 0 from rfl, e0, e0] at hl
    rw [Tr.run_bnd_some hl]
    dsimp only
    have hx := runs_tab (lv := lev ns) (n := ns.length) (by omega)
    have hy := runs_tab (lv := fun i => if lev ns i = -1 then -1 else lev ns i + by_) (n := ns.length) (by omega)
    have hzz := runs_tab (lv := fun _ => (3 : Int)) (n := ns.length) (by omega)
    have hsame : runsOf (fun i => if lev ns i = -1 then -1 else lev ns i + by_) ns.length = runsOf (lev ns) ns.length := by
      unfold runsOf
      rw [← runsTo_same (lv := lev ns)]
      · intro i _
        have := lev_range ns i h8
        split <;> omega
      · intro i j _ _ h1 h2
        rw [if_neg h1, if_neg h2]
        omega
    rw [hsame] at hy
    rw [Tr.run_bnd_some hx, Tr.run_bnd_some hy, Tr.run_bnd_some hzz, Tr.run_br, if_neg (by simp)]
    have hl2 := loopW_count (f := fun s : List (List Int) × List (List Int) × Int => (law12_RunsEven_L17 s.1 s.2.1 s.2.2).run) (runsOf (lev ns) ns.length).length
      (fun k => (runsOf (lev ns) ns.length, runsOf (lev ns) ns.length, (k : Int))) (r := .inl ()) ?_ ?_
    · rw [show ((0 : Nat) : Int) = 0 from rfl] at hl2
      rw [Tr.run_br]
      by_cases h0 : ns.length = 0
      · rw [if_neg (by simp [tab_len, h0]), Tr.run_alt_inl hl2]
        rfl
      · have hz1 : runsOf (fun _ => (3 : Int)) ns.length = [tab ns.length (fun i => (i : Int))] := by
          unfold runsOf
          rw [runsTo_const]
          cases h : tab ns.length (fun i => (i : Int)) with
          | nil =>
            have := congrArg List.length h
            rw [tab_len] at this
            exact absurd this h0
          | cons p r => rfl
        have i0 : idx (runsOf (fun _ => (3 : Int)) ns.length) 0 = some (tab ns.length (fun i => (i : Int))) := by rw [hz1]; exact idx_get (k := 0) rfl (by simp)
        rw [if_pos (by simp only [tab_len, decide_eq_true_eq]; omega), Tr.run_br, if_neg (by rw [hz1]; simp), Tr.run_bnd_some i0, Tr.run_br, if_neg (by simp [tab_len]), Tr.run_alt_inl hl2]
        rfl
    · intro k hk
      dsimp only
      have hne := runsOf_ne (lev ns) ns.length _ (List.getElem_mem hk)
      have hpos : 0 < ((runsOf (lev ns) ns.length)[k]).length := List.length_pos_iff.2 hne
      have z0 : idx ((runsOf (lev ns) ns.length)[k]) 0 = some ((runsOf (lev ns) ns.length)[k])[0] := idx_get (k := 0) rfl hpos
      unfold law12_RunsEven_L17
      rw [Tr.run_br, if_pos (by simp; omega), Tr.run_bnd_some (idx_get rfl hk), Tr.run_bnd_some (idx_get rfl hk), Tr.run_br, if_neg (by simp), Tr.run_bnd_some (idx_get rfl hk), Tr.run_bnd_some z0, Tr.run_bnd_some (idx_get rfl hk),
        Tr.run_bnd_some z0, Tr.run_br, if_neg (by simp), Tr.run_pure]
      have hlen : (runsOf (lev ns) ns.length).length ≤ ns.length + 1 := by
        have f := (runsAt (lev ns) ns.length).few
        unfold runsOf
        cases (runsTo (lev ns) ns.length).2 <;> simp <;> omega
      rw [wrap64 (by omega) (by omega)]
      rfl
    · dsimp only
      unfold law12_RunsEven_L17
      rw [Tr.run_br, if_neg (by simp), Tr.run_pure]
  · intro k hk
    dsimp only
    have hr := lev_range ns k h8
    have hB : ∀ (m : Nat → Int) (v : Int) , (∀ i, i < ns.length → i ≠ k → m i = (if i < k then (if lev ns i = -1 then -1 else lev ns i + by_) else 0)) → v = (if lev ns k = -1 then -1 else lev ns k + by_) →
        tab ns.length (fun i => if i = k then v else m i) = tab ns.length (fun i => if i < k + 1 then (if lev ns i = -1 then -1 else lev ns i + by_) else 0) := by
      intro m v hm hv
      apply tab_congr
      intro i hi
      by_cases e : i = k
      · subst e
        simp [hv]
      · rw [if_neg e, hm i hi e]
        by_cases e2 : i < k
        · simp [e2, show i < k + 1 by omega]
        · simp [e2, show ¬ i < k + 1 by omega]
    have hC : tab ns.length (fun i => if i = k then (3 : Int) else if i < k then 3 else 0) = tab ns.length (fun i => if i < k + 1 then 3 else 0) := by
      apply tab_congr
      intro i _
      by_cases e : i = k
      · subst e; simp
      · by_cases e2 : i < k
        · simp [e, e2, show i < k + 1 by omega]
        · simp [e, e2, show ¬ i < k + 1 by omega]
    unfold law12_RunsEven_L7
    rw [Tr.run_br, if_pos (by simp [tab_len]; omega), Tr.run_bnd_some (idx_tab rfl hk), Tr.run_bnd_some (idx_tab rfl hk), Tr.run_bnd_some (idx_tab rfl hk), show Int.toNat (k : Int) = k from rfl, tab_set, tab_set, Tr.run_br, wrap64 (n := (k : Int) + 1) (by omega) (by omega), hC]
    by_cases h : lev ns k = -1
    · rw [if_neg (by simp [h]), Tr.run_bnd_some (idx_tab rfl hk), Tr.run_pure, hB _ _ (fun i _ _ => rfl) (by simp [h])]
      rfl
    · rw [if_pos (by simpa using h), Tr.run_bnd_some (idx_tab rfl hk), Tr.run_bnd_some (idx_tab rfl hk), Tr.run_bnd_some (idx_tab rfl hk), Tr.run_pure, tab_set, wrap64 (n := by_) (by omega) (by omega), wrap64 (by omega) (by omega),
        hB _ _ (fun i _ e => by simp [e]) (by simp [h])]
      rfl
  · dsimp only
    unfold law12_RunsEven_L7
    rw [Tr.run_br, if_neg (by simp [tab_len]), Tr.run_pure]
    have e1 : tab ns.length (fun i => if i < ns.length then (if lev ns i = -1 then -1 else lev ns i + by_) else 0) = tab ns.length (fun i => if lev ns i = -1 then -1 else lev ns i + by_) := tab_congr fun i hi => by rw [if_pos hi]
    have e2 : tab ns.length (fun i => if i < ns.length then (3 : Int) else 0) = tab ns.length (fun _ => 3) := tab_congr fun i hi => by rw [if_pos hi]
    rw [e1, e2]

theorem runsEven_all (x : Tys.I [.sl (.int .u8), .int .u8]) (h : WfAll [.sl (.int .u8), .int .u8] x) (hb : bulkAll [.sl (.int .u8), .int .u8] x ≤ 1048576) : law12_RunsEven_F x.1 x.2.1 = some true := by
  simp only [bulkAll, bulk] at hb
  exact runsEven_true _ _ (by omega) (fun n hn => wf_u8 (h.1.2 n hn)) (wf_u8 h.2.1)

end Go.Proofs.Ytfjhbhnelkpgdaa
