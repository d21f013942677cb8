/-
  The laws of isolate return true: what the program's matching is.
-/
import Derived.Test.YtfojigpbnepdhaaLawRelevel
namespace Go.Proofs.Ytfojigpbnepdhaa

def iso (c : Int) : Bool := c == 19 || c == 20 || c == 21
theorem isoF (c : Int) : bidic_Isolate_F c = some (iso c) := iso_F c

/-- the beginnings that are open behind so many classes, the last one first -/
def stk (cs : List Int) : Nat → List Nat
  | 0 => []
  | k + 1 => if iso (cs.getD k 0) = true then k :: stk cs k else if cs.getD k 0 = 22 then (stk cs k).tail else stk cs k
/-- the matches behind so many classes -/
def mt (cs : List Int) : Nat → Nat → Int
  | 0, _ => -1
  | k + 1, i => if iso (cs.getD k 0) = true then mt cs k i else if cs.getD k 0 = 22 then
      (match stk cs k with | t :: _ => if i = t then (k : Int) else if i = k then (t : Int) else mt cs k i | [] => mt cs k i) else mt cs k i

theorem stk_succ (cs : List Int) (k : Nat) : stk cs (k + 1) = if iso (cs.getD k 0) = true then k :: stk cs k else if cs.getD k 0 = 22 then (stk cs k).tail else stk cs k := rfl
theorem mt_succ (cs : List Int) (k i : Nat) : mt cs (k + 1) i = if iso (cs.getD k 0) = true then mt cs k i else if cs.getD k 0 = 22 then
      (match stk cs k with | t :: _ => if i = t then (k : Int) else if i = k then (t : Int) else mt cs k i | [] => mt cs k i) else mt cs k i := rfl
theorem stk_lt (cs : List Int) : ∀ k, ∀ t ∈ stk cs k, t < k
  | 0, t, h => by cases h
  | k + 1, t, h => by
    rw [stk_succ] at h
    split at h
    · rcases List.mem_cons.1 h with rfl | h
      · omega
      · have := stk_lt cs k t h; omega
    · split at h
      · have := stk_lt cs k t (List.mem_of_mem_tail h); omega
      · have := stk_lt cs k t h; omega
theorem stk_len (cs : List Int) : ∀ k, (stk cs k).length ≤ k
  | 0 => Nat.le_refl _
  | k + 1 => by
    have := stk_len cs k
    rw [stk_succ]
    split
    · simp only [List.length_cons]; omega
    · split
      · rw [List.length_tail]; omega
      · omega
theorem mt_ge (cs : List Int) : ∀ k i, k ≤ i → mt cs k i = -1
  | 0, _, _ => rfl
  | k + 1, i, h => by
    rw [mt_succ, mt_ge cs k i (by omega)]
    split
    · rfl
    · split
      · split
        · rename_i t s hs
          have := stk_lt cs k t (by rw [hs]; simp)
          rw [if_neg (by omega), if_neg (by omega)]
        · rfl
      · rfl

theorem match_F (cs : List Int) (hn : cs.length ≤ 4194304) : isolate_Match_F cs = some (tab cs.length fun i => mt cs cs.length i) := by
  unfold isolate_Match_F isolate_Match_T
  refine Post.run (Post.bnd (mk_eq (k := cs.length) rfl (by omega)) (Post.bnd (count (L := fun s : List Int × List Int × List Int × Int × Int => isolate_Match_L4 s.1 s.2.1 s.2.2.1 s.2.2.2.1 s.2.2.2.2) cs.length
    (fun k => (tab cs.length (fun i => if i < k then mt cs k i else 0), (stk cs k).reverse.map (fun (t : Nat) => (t : Int)), cs, (cs.length : Int), (k : Int))) ?_ (fun k hk => ?_) ?_) (Post.pure rfl)))
  · rw [tab_rep]; simp [stk]
  · dsimp only
    have hsl := stk_len cs k
    have hk1 : IntKind.i64.wrap ((k : Int) + 1) = ((k + 1 : Nat) : Int) := by rw [wrap64 (by omega) (by omega)]; omega
    have hset : (tab cs.length (fun i => if i < k then mt cs k i else 0)).set k (-1) = tab cs.length (fun i => if i < k + 1 then mt cs k i else 0) := by
      rw [tab_set]
      refine tab_congr fun p hp => ?_
      by_cases e : p = k
      · subst e; rw [if_pos rfl, if_pos (by omega), mt_ge cs p p (Nat.le_refl _)]
      · by_cases h : p < k
        · rw [if_neg e, if_pos h, if_pos (by omega)]
        · rw [if_neg e, if_neg h, if_neg (by omega)]
    unfold isolate_Match_L4
    rw [hk1]
    refine Post.brT (by simpa using hk) (Post.idx 0 k rfl hk (Post.idx 0 k rfl (by rw [tab_len]; exact hk) (Post.bnd (isoF _) ?_)))
    rw [Int.toNat_natCast, hset]
    generalize hc : cs.getD k 0 = c
    refine Post.br (fun hi => ?_) (fun hi => ?_)
    · have hs : stk cs (k + 1) = k :: stk cs k := by rw [stk_succ, hc, if_pos hi]
      have hm : ∀ i, mt cs (k + 1) i = mt cs k i := fun i => by rw [mt_succ, hc, if_pos hi]
      refine Post.bnd (app_eq (by simp; omega)) (Post.brF ?_ (Post.pure ?_))
      · simp only [beq_eq_false_iff_ne, ne_eq]
        rintro rfl; cases hi
      · rw [hs]
        simp only [hm, List.reverse_cons, List.map_append, List.map_cons, List.map_nil]
    · refine Post.br (fun h2 => ?_) (fun h2 => Post.pure ?_)
      · have h2 : c = 22 := by simpa using h2
        have hs : stk cs (k + 1) = (stk cs k).tail := by rw [stk_succ, hc, if_neg (by rw [hi]; simp), if_pos h2]
        cases hst : stk cs k with
        | nil =>
          have hm : ∀ i, mt cs (k + 1) i = mt cs k i := fun i => by rw [mt_succ, hc, if_neg (by rw [hi]; simp), if_pos h2, hst]
          refine Post.brF (by simp) (Post.pure ?_)
          rw [hs, hst]
          simp only [hm, List.tail_nil]
        | cons t s =>
          have htk := stk_lt cs k t (by rw [hst]; simp)
          rw [hst] at hsl
          simp only [List.length_cons] at hsl
          have hm : ∀ i, mt cs (k + 1) i = if i = t then (k : Int) else if i = k then (t : Int) else mt cs k i := fun i => by rw [mt_succ, hc, if_neg (by rw [hi]; simp), if_pos h2, hst]
          have hl : ((t :: s).reverse.map (fun (t : Nat) => (t : Int))).length = s.length + 1 := by simp
          have hw : IntKind.i64.wrap ((((t :: s).reverse.map (fun (t : Nat) => (t : Int))).length : Int) - 1) = (s.length : Int) := by
            rw [hl, wrap64 (by omega) (by omega)]; omega
          have hg : ((t :: s).reverse.map (fun (t : Nat) => (t : Int))).getD s.length 0 = (t : Int) := by
            rw [List.reverse_cons, List.map_append, List.getD_eq_getElem?_getD, List.getElem?_append_right (by simp)]; simp
          rw [hw]
          refine Post.brT (by rw [hl]; exact decide_eq_true (by omega)) (Post.idx 0 s.length rfl (by rw [hl]; omega) (Post.idx 0 s.length rfl (by rw [hl]; omega) ?_))
          rw [hg]
          refine Post.idx 0 k rfl (by rw [tab_len]; exact hk) ?_
          rw [tab_set]
          refine Post.idx 0 t rfl (by rw [tab_len]; omega) (Post.bnd (cut_take (n := s.length) rfl (by rw [hl]; omega)) (Post.pure ?_))
          rw [Int.toNat_natCast, tab_set, hs, hst, List.tail_cons]
          have e1 : ((t :: s).reverse.map (fun (t : Nat) => (t : Int))).take s.length = s.reverse.map (fun (t : Nat) => (t : Int)) := by
            rw [List.reverse_cons, List.map_append, List.take_append_of_le_length (by simp), List.take_of_length_le (by simp)]
          have e2 : tab cs.length (fun i => if i = t then (k : Int) else if i = k then (t : Int) else if i < k + 1 then mt cs k i else 0) = tab cs.length (fun i => if i < k + 1 then mt cs (k + 1) i else 0) := tab_congr fun p hp => by
            rw [hm]
            by_cases a1 : p = t
            · rw [if_pos a1, if_pos (by omega), if_pos a1]
            · by_cases a2 : p = k
              · rw [if_neg a1, if_pos a2, if_pos (by omega), if_neg a1, if_pos a2]
              · rw [if_neg a1, if_neg a2, if_neg a1, if_neg a2]
          rw [e1, ← e2]
      · have h2 : ¬ c = 22 := by simpa using h2
        have hs : stk cs (k + 1) = stk cs k := by rw [stk_succ, hc, if_neg (by rw [hi]; simp), if_neg h2]
        have hm : ∀ i, mt cs (k + 1) i = mt cs k i := fun i => by rw [mt_succ, hc, if_neg (by rw [hi]; simp), if_neg h2]
        rw [hs]
        simp only [hm]
  · dsimp only
    unfold isolate_Match_L4
    refine Post.brF (by simp) (Post.pure ?_)
    have e : tab cs.length (fun i => if i < cs.length then mt cs cs.length i else 0) = tab cs.length (fun i => mt cs cs.length i) := tab_congr fun p hp => by rw [if_pos hp]
    rw [e]

theorem awake09 : law09_awake_F = some true := by
  unfold law09_awake_F law09_awake_T
  have h1 : isolate_Match_F [19, 20, 22, 0, 22, 22] = some [4, 2, 1, -1, 0, -1] := by
    rw [match_F [19, 20, 22, 0, 22, 22] (by simp)]; exact congrArg some (by decide)
  have h2 : isolate_Match_F [20, 0] = some [-1, -1] := by
    rw [match_F [20, 0] (by simp)]; exact congrArg some (by decide)
  exact Post.run (Post.bnd h1 (Post.bnd h2 (Post.brT rfl (Post.idx 0 0 rfl (by simp) (Post.brT rfl (Post.idx 0 1 rfl (by simp) (Post.brT rfl (Post.idx 0 2 rfl (by simp) (Post.brT rfl (Post.idx 0 3 rfl (by simp) (Post.brT rfl (Post.idx 0 4 rfl (by simp) (Post.brT rfl (Post.idx 0 5 rfl (by simp) (Post.brT rfl (Post.brT rfl (Post.idx 0 0 rfl (by simp) (Post.pure rfl))))))))))))))))))

/-! ### what stands behind -/
theorem getD_app {a b : List Int} {k : Nat} (d : Int) : (a ++ b).getD k d = if k < a.length then a.getD k d else b.getD (k - a.length) d := by
  by_cases h : k < a.length
  · rw [if_pos h, List.getD_eq_getElem?_getD, List.getElem?_append_left h, ← List.getD_eq_getElem?_getD]
  · rw [if_neg h, List.getD_eq_getElem?_getD, List.getElem?_append_right (by omega), ← List.getD_eq_getElem?_getD]
theorem stk_front (a b : List Int) : ∀ k, k ≤ a.length → stk (a ++ b) k = stk a k
  | 0, _ => rfl
  | k + 1, h => by
    have hg : (a ++ b).getD k 0 = a.getD k 0 := by rw [getD_app, if_pos (by omega)]
    rw [stk_succ, stk_succ, stk_front a b k (by omega), hg]
theorem mt_front (a b : List Int) : ∀ k, k ≤ a.length → ∀ i, mt (a ++ b) k i = mt a k i
  | 0, _, _ => rfl
  | k + 1, h, i => by
    have hg : (a ++ b).getD k 0 = a.getD k 0 := by rw [getD_app, if_pos (by omega)]
    rw [mt_succ, mt_succ, stk_front a b k (by omega), hg, mt_front a b k (by omega) i]
theorem mt_behind (a b : List Int) (hb : ∀ c ∈ b, c ≠ 22) : ∀ j, j ≤ b.length → ∀ i, mt (a ++ b) (a.length + j) i = mt a a.length i
  | 0, _, i => mt_front a b _ (Nat.le_refl _) i
  | j + 1, h, i => by
    have hg : (a ++ b).getD (a.length + j) 0 = b.getD j 0 := by rw [getD_app, if_neg (by omega), show a.length + j - a.length = j by omega]
    have hne : b.getD j 0 ≠ 22 := hb _ (by
      have : j < b.length := by omega
      simp [List.getD, this])
    rw [← Nat.add_assoc]
    rw [mt_succ, hg, if_neg hne, mt_behind a b hb j (by omega) i]
    split <;> rfl

theorem take_snoc {l : List Int} {k : Nat} (h : k < l.length) : l.take (k + 1) = l.take k ++ [l.getD k 0] := by
  rw [List.take_succ_eq_append_getElem h]
  simp [List.getD, h]

theorem isolateAhead_F (ns ms : List Int) (h1 : ns.length ≤ 2097152) (h2 : ms.length ≤ 2097152) (w1 : ∀ n ∈ ns, 0 ≤ n ∧ n ≤ 255) (w2 : ∀ n ∈ ms, 0 ≤ n ∧ n ≤ 255) : law09_IsolateAhead_F ns ms = some true := by
  unfold law09_IsolateAhead_F law09_IsolateAhead_T
  generalize hc : (tab ns.length fun i => (ns.getD i 0) % 23) = cs
  generalize hd : (tab ms.length fun i => (ms.getD i 0) % 23) = b
  have hcl : cs.length ≤ 2097152 := by rw [← hc, tab_len]; exact h1
  have hbl : b.length ≤ 2097152 := by rw [← hd, tab_len]; exact h2
  refine Post.run (Post.bnd awake09 (Post.brF rfl (Post.bnd (by rw [classes_F ns h1 w1, hc]) (Post.bnd (app_eq (by simp; omega)) (Post.bnd (by rw [classes_F ms h2 w2, hd]) ?_)))))
  rw [List.nil_append]
  have hfl : ∀ k, ((b.take k).filter (fun c => c != 22)).length ≤ b.length := fun k => Nat.le_trans (List.length_filter_le _ _) (by rw [List.length_take]; omega)
  refine Post.bnd (b := (cs, cs ++ b.filter (fun c => c != 22))) (count (L := fun s : List Int × List Int × List Int × Int × Int => law09_IsolateAhead_L7 s.1 s.2.1 s.2.2.1 s.2.2.2.1 s.2.2.2.2) b.length
    (fun k => (cs, cs ++ (b.take k).filter (fun c => c != 22), b, (b.length : Int), (k : Int))) (by simp) (fun k hk => ?_) ?_) ?_
  · dsimp only
    unfold law09_IsolateAhead_L7
    have hk1 : IntKind.i64.wrap ((k : Int) + 1) = ((k + 1 : Nat) : Int) := by rw [wrap64 (by omega) (by omega)]; omega
    have hf := hfl k
    rw [hk1]
    refine Post.brT (by simpa using hk) (Post.idx 0 k rfl hk (Post.br (fun h => ?_) (fun h => Post.pure ?_)))
    · refine Post.bnd (app_eq (by simp only [List.length_append, List.length_singleton]; omega)) (Post.pure ?_)
      rw [take_snoc hk, List.filter_append, List.filter_cons, if_pos h, List.filter_nil, List.append_assoc]
    · rw [take_snoc hk, List.filter_append, List.filter_cons, if_neg (by rw [h]; simp), List.filter_nil, List.append_nil]
  · dsimp only
    unfold law09_IsolateAhead_L7
    refine Post.brF (by simp) (Post.pure ?_)
    rw [List.take_length]
  dsimp only
  have hfb := hfl b.length
  rw [List.take_length] at hfb
  have h22 : ∀ c ∈ b.filter (fun c => c != 22), c ≠ 22 := fun c hc => by
    have := (List.mem_filter.1 hc).2
    simpa using this
  generalize b.filter (fun c => c != 22) = d at h22 hfb
  have hal : (cs ++ d).length = cs.length + d.length := by simp
  refine Post.bnd (match_F cs (by omega)) (Post.bnd (match_F (cs ++ d) (by omega)) (Post.brF (by simp [tab_len]) (Post.brF (by simp [tab_len]) (Post.altL (b := ()) ?_ (Post.pure rfl)))))
  rw [tab_len]
  refine count (L := fun s : List Int × List Int × Int × Int => law09_IsolateAhead_L16 s.1 s.2.1 s.2.2.1 s.2.2.2) (cs ++ d).length
    (fun k => (tab cs.length fun i => mt cs cs.length i, tab (cs ++ d).length fun i => mt (cs ++ d) (cs ++ d).length i, ((cs ++ d).length : Int), (k : Int))) rfl (fun k hk => ?_) ?_
  · dsimp only
    unfold law09_IsolateAhead_L16
    have hk1 : IntKind.i64.wrap ((k : Int) + 1) = ((k + 1 : Nat) : Int) := by rw [wrap64 (by omega) (by omega)]; omega
    have hm : mt (cs ++ d) (cs ++ d).length k = mt cs cs.length k := by
      rw [hal]; exact mt_behind cs d h22 d.length (Nat.le_refl _) k
    rw [hk1, tab_len]
    refine Post.brT (decide_eq_true (by omega)) (Post.br (fun h => ?_) (fun h => ?_))
    · have h : k < cs.length := by simpa using h
      refine Post.idx 0 k rfl (by rw [tab_len]; exact hk) (Post.idx 0 k rfl (by rw [tab_len]; exact h) ?_)
      rw [tab_getD _ _ hk, tab_getD _ _ h, hm]
      exact Post.brF (by simp) (Post.brF (decide_eq_false (by omega)) (Post.pure rfl))
    · have h : ¬ k < cs.length := by simpa using h
      refine Post.brT (decide_eq_true (by omega)) (Post.idx 0 k rfl (by rw [tab_len]; exact hk) ?_)
      rw [tab_getD _ _ hk, hm, mt_ge cs _ _ (by omega)]
      exact Post.brF rfl (Post.pure rfl)
  · dsimp only
    unfold law09_IsolateAhead_L16
    exact Post.brF (by simp) (Post.pure rfl)

theorem isolateAhead_all (x : Tys.I [.sl (.int .u8), .sl (.int .u8)]) (h : WfAll [.sl (.int .u8), .sl (.int .u8)] x) (hb : bulkAll [.sl (.int .u8), .sl (.int .u8)] x ≤ 1048576) : law09_IsolateAhead_F x.1 x.2.1 = some true := by
  simp only [bulkAll, bulk] at hb
  exact isolateAhead_F _ _ (by omega) (by omega) (fun n hn => wf_u8 (h.1.2 n hn)) (fun n hn => wf_u8 (h.2.1.2 n hn))

end Go.Proofs.Ytfojigpbnepdhaa
