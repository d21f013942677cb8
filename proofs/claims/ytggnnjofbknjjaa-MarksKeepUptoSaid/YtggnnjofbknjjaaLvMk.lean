/-
  MarksKeep returns true.
-/
import Derived.Test.YtggnnjofbknjjaaLvMc
import Derived.Test.YtggnnjofbknjjaaLvOb
namespace Go.Proofs.Ytggnnjofbknjjaa
set_option linter.all false

theorem fx_perm {p : Int → Bool} {lv : Int → Int} : ∀ (l acc : List Int), (fx p lv acc l).Perm (acc ++ l)
  | [], acc => by rw [List.append_nil]; exact List.Perm.refl _
  | x :: B, acc => by
    by_cases h : p x = true
    · rw [show fx p lv acc (x :: B) = fx p lv (acc ++ [x]) B from if_pos h]
      have := fx_perm (p := p) (lv := lv) B (acc ++ [x])
      rw [List.append_assoc] at this
      exact this
    · rw [fx_stop (by simpa using h)]
      have hB := fx_perm (p := p) (lv := lv) B []
      rw [List.nil_append] at hB
      rw [show acc ++ x :: B = (acc ++ [x]) ++ B by simp]
      refine List.Perm.append ?_ hB
      split
      · exact ((List.reverse_perm acc).cons x).trans (List.perm_append_singleton x acc).symm
      · exact List.Perm.refl _

abbrev K10 := List Int × List Int × List Int × Int × List Int × List Int × Bool × List Int × List Int × Int × Int
theorem keep10 (L cs W v out : List Int) (ok : Bool) (n : Nat) (hL : n ≤ L.length) (hn : n ≤ 4194304) :
    loopW (fun s : K10 => (law26_MarksKeep_L10 s.1 s.2.1 s.2.2.1 s.2.2.2.1 s.2.2.2.2.1 s.2.2.2.2.2.1 s.2.2.2.2.2.2.1 s.2.2.2.2.2.2.2.1 s.2.2.2.2.2.2.2.2.1 s.2.2.2.2.2.2.2.2.2.1 s.2.2.2.2.2.2.2.2.2.2).run) (L, cs, W, (n : Int), v, out, ok, List.replicate n 0, List.replicate n 0, (n : Int), 0) =
      some (L, cs, W, (n : Int), v, out, ok, tab n (fun _ => 1), tab n (fun i => IntKind.i64.wrap (2 * L.getD i 0))) := by
  have r0 : List.replicate n (0 : Int) = tab n (fun _ => 0) := tab_rep _ _
  rw [r0]
  refine count (L := fun s : K10 => law26_MarksKeep_L10 s.1 s.2.1 s.2.2.1 s.2.2.2.1 s.2.2.2.2.1 s.2.2.2.2.2.1 s.2.2.2.2.2.2.1 s.2.2.2.2.2.2.2.1 s.2.2.2.2.2.2.2.2.1 s.2.2.2.2.2.2.2.2.2.1 s.2.2.2.2.2.2.2.2.2.2) n
    (fun k => (L, cs, W, (n : Int), v, out, ok, tab n (part (fun _ => 1) (fun _ => 0) k), tab n (part (fun i => IntKind.i64.wrap (2 * L.getD i 0)) (fun _ => 0) k), (n : Int), (k : Int))) rfl (fun k hk => ?_) ?_
  · dsimp only
    unfold law26_MarksKeep_L10
    refine Post.brT (by rw [decide_eq_true_eq]; omega) (Post.idx 0 k rfl (by rw [tab_len]; exact hk) (Post.idx 0 k rfl (by omega) (Post.idx 0 k rfl (by rw [tab_len]; exact hk) (Post.pure ?_))))
    rw [wrap_succ (by omega), toNat_nat, part_set _ rfl, part_set _ rfl]
  · dsimp only
    unfold law26_MarksKeep_L10
    rw [part_end, part_end]
    exact Post.brF (by rw [decide_eq_false_iff_not]; omega) (Post.pure rfl)

abbrev K18 := List Int × List Int × Int × List Int × List Int × Bool × List Int × Int
theorem keep18 (L cs v out wide : List Int) (n : Int) (hl : out.length ≤ 4194304) (h : ∀ x ∈ out, 0 ≤ x ∧ x < L.length ∧ L.getD x.toNat 0 ≠ -1) :
    loopW (fun s : K18 => (law26_MarksKeep_L18 s.1 s.2.1 s.2.2.1 s.2.2.2.1 s.2.2.2.2.1 s.2.2.2.2.2.1 s.2.2.2.2.2.2.1 s.2.2.2.2.2.2.2).run) (L, cs, n, v, out, true, wide, 0) = some (.inl (L, cs, n, v, out, true, wide)) := by
  refine count (L := fun s : K18 => law26_MarksKeep_L18 s.1 s.2.1 s.2.2.1 s.2.2.2.1 s.2.2.2.2.1 s.2.2.2.2.2.1 s.2.2.2.2.2.2.1 s.2.2.2.2.2.2.2) out.length
    (fun k => (L, cs, n, v, out, true, wide, (k : Int))) rfl (fun k hk => ?_) ?_
  · dsimp only
    unfold law26_MarksKeep_L18
    obtain ⟨h1, h2, h3⟩ := h (out.getD k 0) (by
      rw [show out.getD k 0 = out[k] by simp [List.getD, hk]]
      exact List.getElem_mem hk)
    refine Post.brT rfl (Post.brT (by rw [decide_eq_true_eq]; omega) (Post.idx 0 k rfl hk (Post.idx 0 (out.getD k 0).toNat (by omega) (by omega) (Post.brF ?_ (Post.pure (by rw [wrap_succ (by omega)]))))))
    rw [beq_eq_false_iff_ne]
    exact h3
  · dsimp only
    unfold law26_MarksKeep_L18
    exact Post.brT rfl (Post.brF (by rw [decide_eq_false_iff_not]; omega) (Post.pure rfl))

theorem lev_small (ns : List Int) (i : Nat) : -1 ≤ lev ns i ∧ lev ns i ≤ 5 := by unfold lev; split <;> omega
theorem marksKeep_F (ls ns ws : List Int) (h1 : ls.length ≤ 1048576) (h2 : ns.length ≤ 1048576) (h3 : ws.length ≤ 1048576) (w1 : ∀ n ∈ ls, 0 ≤ n ∧ n ≤ 255) (w2 : ∀ n ∈ ns, 0 ≤ n ∧ n ≤ 255) (w3 : ∀ n ∈ ws, 0 ≤ n ∧ n ≤ 255) : law26_MarksKeep_F ls ns ws = some true := by
  obtain ⟨cs, hc, hcl, _, _⟩ := classes_F ns (by omega) w2
  unfold law26_MarksKeep_F law26_MarksKeep_T
  refine Post.run (Post.bnd awake26 (Post.brF rfl (Post.bnd (levels_F ls (by omega) w1) (Post.bnd hc (Post.bnd (widths_F ws (by omega) w3) ?_)))))
  obtain ⟨n, hn, n1, n2, n3⟩ := least3 (tab ls.length (lev ls)).length cs.length (tab ws.length fun i => ws.getD i 0 % 3).length
  have hlL : (tab ls.length (lev ls)).length = ls.length := tab_len _ _
  have hrng : ∀ i, -1 ≤ (tab ls.length (lev ls)).getD i 0 ∧ (tab ls.length (lev ls)).getD i 0 ≤ 5 := fun i => by
    by_cases h : i < ls.length
    · rw [tab_getD _ _ h]; exact lev_small ls i
    · rw [show (tab ls.length (lev ls)).getD i 0 = 0 by simp [List.getD, hlL, h]]; omega
  generalize tab ls.length (lev ls) = L at *
  generalize (tab ws.length fun i => ws.getD i 0 % 3) = W at *
  rw [← hn]
  have c1 : cut L 0 (n : Int) = some (L.take n) := cut_take rfl n1
  have c2 : cut cs 0 (n : Int) = some (cs.take n) := cut_take rfl n2
  have c3 : cut W 0 (n : Int) = some (W.take n) := cut_take rfl n3
  have l1 : (L.take n).length = n := by rw [List.length_take]; omega
  have l2 : (cs.take n).length = n := by rw [List.length_take]; omega
  have l3 : (W.take n).length = n := by rw [List.length_take]; omega
  have hvl := vis_len (L.take n)
  have hvn := vis_nodup (L.take n)
  have hvm := vis_mem (L.take n)
  have hvis := visual_F (L.take n) (by omega)
  generalize vis (L.take n) = v at *
  have hV : ∀ x ∈ v, 0 ≤ x ∧ x < (n : Int) := fun x hx => by
    obtain ⟨k, hk, rfl, _⟩ := (hvm x).1 hx
    omega
  have hmin : ∀ a b c : List Int, a.length = n → b.length = n → c.length = n → (n : Int) = if (c.length : Int) < (if (b.length : Int) < (a.length : Int) then (b.length : Int) else (a.length : Int)) then (c.length : Int) else (if (b.length : Int) < (a.length : Int) then (b.length : Int) else (a.length : Int)) := fun a b c ha hb hc => by rw [ha, hb, hc]; simp
  have hfix := fix_F (L := L.take n) (C := cs.take n) (W := W.take n) (n := n) (hmin _ _ _ l1 l2 l3) (v := v) hV (by omega)
  have hperm := fx_perm (p := (Li.mk (L.take n) (cs.take n) (W.take n) n).mark) (lv := (Li.mk (L.take n) (cs.take n) (W.take n) n).lv) v []
  generalize fx (Li.mk (L.take n) (cs.take n) (W.take n) n).mark (Li.mk (L.take n) (cs.take n) (W.take n) n).lv [] v = out at *
  rw [List.nil_append] at hperm
  have hol : out.length = v.length := hperm.length_eq
  obtain ⟨B, hB, _, _⟩ := bk_ok n out (fun _ => -1) 0 (hperm.nodup_iff.2 hvn) (fun x hx => by
    have := hV x (hperm.mem_iff.1 hx)
    exact ⟨this.1, this.2, rfl⟩)
  have hback : order_Back_F out (L.take n) = some (tab n B, true) := by
    rw [back_F out (L.take n) (by omega) (by omega), l1, hB]
  have hm : mk 17592186044416 (0 : Int) (n : Int) = some (List.replicate n 0) := mk_eq (k := n) rfl (by omega)
  have hwd : ∀ i, IntKind.i64.wrap (2 * L.getD i 0) = 2 * L.getD i 0 := fun i => by
    have := hrng i
    exact wrap64 (by omega) (by omega)
  have he : tab n (fun i => IntKind.i64.wrap (2 * L.getD i 0)) = tab n (fun i => 2 * L.getD i 0) := tab_congr fun i _ => hwd i
  have hfe := fix_F (L := tab n (fun i => 2 * L.getD i 0)) (C := cs.take n) (W := W.take n) (n := n) (hmin _ _ _ (tab_len _ _) l2 l3) (v := v) hV (by omega)
  rw [fx_none] at hfe
  rotate_left
  · intro x hx
    have hx := hV x hx
    unfold Li.mark Li.lv
    dsimp only
    rw [tab_getD _ _ (show x.toNat < n by omega)]
    have : ((2 * L.getD x.toNat 0).tmod 2 == 1) = false := by
      rw [Int.mul_tmod_right]; rfl
    rw [this]
    simp
  have hfw := fix_F (L := L.take n) (C := cs.take n) (W := tab n (fun _ => 1)) (n := n) (hmin _ _ _ l1 l2 (tab_len _ _)) (v := v) hV (by omega)
  rw [fx_none] at hfw
  rotate_left
  · intro x hx
    have hx := hV x hx
    unfold Li.mark
    dsimp only
    rw [tab_getD _ _ (show x.toNat < n by omega)]
    simp
  have hmem : ∀ x ∈ out, 0 ≤ x ∧ x < L.length ∧ L.getD x.toNat 0 ≠ -1 := fun x hx => by
    obtain ⟨k, hk, rfl, hne⟩ := (hvm x).1 (hperm.mem_iff.1 hx)
    rw [l1] at hk
    rw [show (L.take n).getD k 0 = L.getD k 0 by simp [List.getD, hk]] at hne
    exact ⟨by omega, by omega, by rw [toNat_nat]; exact hne⟩
  refine Post.bnd c1 (Post.bnd hvis (Post.bnd c1 (Post.bnd c2 (Post.bnd c3 (Post.bnd hfix (Post.bnd c1 (Post.bnd hback (Post.bnd hm (Post.bnd hm ?_)))))))))
  rw [List.length_replicate]
  refine Post.bnd (keep10 L cs W v out true n n1 (by omega)) ?_
  rw [he]
  refine Post.bnd c2 (Post.bnd c3 (Post.bnd hfe (Post.bnd (same_F v (by omega)) (Post.brF rfl (Post.altL (keep18 L cs v out _ n (by omega) hmem) (Post.brT rfl (Post.brT ?_ (Post.bnd c1 (Post.bnd c2 (Post.bnd hfw (Post.bnd (same_F v (by omega)) (Post.pure rfl))))))))))))
  dsimp only
  rw [hol]
  simp
theorem marksKeep_all (x : Tys.I [.sl (.int .u8), .sl (.int .u8), .sl (.int .u8)]) (h : WfAll [.sl (.int .u8), .sl (.int .u8), .sl (.int .u8)] x) (hb : bulkAll [.sl (.int .u8), .sl (.int .u8), .sl (.int .u8)] x ≤ 1048576) : law26_MarksKeep_F x.1 x.2.1 x.2.2.1 = some true := by
  simp only [bulkAll, bulk] at hb
  exact marksKeep_F _ _ _ (by omega) (by omega) (by omega) (fun n hn => wf_u8 (h.1.2 n hn)) (fun n hn => wf_u8 (h.2.1.2 n hn)) (fun n hn => wf_u8 (h.2.2.1.2 n hn))

end Go.Proofs.Ytggnnjofbknjjaa
