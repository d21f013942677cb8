import Derived.Test.YtenbhmjcoljddaaGreatDoorSh
import Derived.Test.YtenbhmjcoljddaaGreatDoorEvMath
import Derived.Test.YtenbhmjcoljddaaGreatDoorLvE
import Derived.Test.YtenbhmjcoljddaaGreatDoorLvS
import Derived.Test.YtenbhmjcoljddaaGreatDoorLvW
import Derived.Test.YtenbhmjcoljddaaGreatDoorLvN
namespace Go.Proofs.YtenbhmjcoljddaaGreatDoor.Bd
set_option linter.all false
def findB (t : List (Int × Int × Int)) (r o : Int) : Nat → Nat → Nat → Int
 | 0, _, _ => o
 | n + 1, lo, hi => if lo < hi then
   (match t[(lo + hi) / 2]? with
   | some x => if r < x.1 then findB t r o n lo ((lo + hi) / 2) else if r > x.2.1 then findB t r o n ((lo + hi) / 2 + 1) hi else x.2.2
   | none => o) else o
def finds (t : List (Int × Int × Int)) (r o : Int) : Int := findB t r o (t.length + 1) 0 t.length
theorem find_F (t : List (Int × Int × Int)) (r o : Int) (hn : t.length ≤ 1000000) : ranges_Find_F t r o = some (finds t r o) := by
 unfold ranges_Find_F ranges_Find_T
 have key : ∀ (n lo hi : Nat), hi ≤ t.length → lo ≤ hi → hi - lo < n → ∃ z, loopW (fun s : (List (Int × Int × Int)) × Int × Int × Int × Int => (ranges_Find_L2 s.1 s.2.1 s.2.2.1 s.2.2.2.1 s.2.2.2.2).run) (t, r, o, (lo : Int), (hi : Int)) = some z ∧ (z = .inl (findB t r o n lo hi) ∨ z = .inr (findB t r o n lo hi)) := by
  intro n
  induction n with
  | zero => intro lo hi _ _ h; omega
  | succ n ih =>
   intro lo hi hh hlh hlt
   by_cases h : lo < hi
   ·have hm : (lo + hi) / 2 < t.length := by omega
    have ew : IntKind.i64.wrap ((IntKind.i64.wrap ((lo : Int) + (hi : Int))).tdiv 2) = (((lo + hi) / 2 : Nat) : Int) := by
     rw [wrap64 (n := (lo : Int) + (hi : Int)) (by omega) (by omega), Int.tdiv_eq_ediv_of_nonneg (by omega), wrap64 (by omega) (by omega)]; omega
    have hx : t[(lo + hi) / 2]? = some (t.getD ((lo + hi) / 2) (0, 0, 0)) := by rw [List.getElem?_eq_getElem hm]; simp [List.getD, hm]
    generalize he : t.getD ((lo + hi) / 2) (0, 0, 0) = x at hx
    have hf : findB t r o (n + 1) lo hi = if r < x.1 then findB t r o n lo ((lo + hi) / 2) else if r > x.2.1 then findB t r o n ((lo + hi) / 2 + 1) hi else x.2.2 := by
     show (if lo < hi then (match t[(lo + hi) / 2]? with | some x => if r < x.1 then findB t r o n lo ((lo + hi) / 2) else if r > x.2.1 then findB t r o n ((lo + hi) / 2 + 1) hi else x.2.2 | none => o) else o) = _
     rw [if_pos h, hx]
    have step : ∀ {l : Lap ((List (Int × Int × Int)) × Int × Int × Int × Int) (Sum Int Int)}, Post (ranges_Find_L2 t r o lo hi) (· = l) → (ranges_Find_L2 t r o lo hi).run = some l := fun h => h.run
    by_cases h1 : r < x.1
    ·rw [if_pos h1] at hf
     obtain ⟨z, hz, hz2⟩ := ih lo ((lo + hi) / 2) (by omega) (by omega) (by omega)
     refine ⟨z, loopW_next (step ?_) hz, by rw [hf]; exact hz2⟩
     unfold ranges_Find_L2
     rw [ew]
     refine Post.brT (by simpa using h) (Post.idx (0, 0, 0) _ rfl hm ?_)
     rw [he]
     exact Post.brT (by simpa using h1) (Post.pure rfl)
    ·by_cases h2 : r > x.2.1
     ·rw [if_neg h1, if_pos h2] at hf
      obtain ⟨z, hz, hz2⟩ := ih ((lo + hi) / 2 + 1) hi (by omega) (by omega) (by omega)
      refine ⟨z, loopW_next (step ?_) hz, by rw [hf]; exact hz2⟩
      unfold ranges_Find_L2
      rw [ew]
      refine Post.brT (by simpa using h) (Post.idx (0, 0, 0) _ rfl hm ?_)
      rw [he]
      refine Post.brF (by simpa using h1) (Post.idx (0, 0, 0) _ rfl hm ?_)
      rw [he]
      refine Post.brT (by simpa using h2) (Post.pure ?_)
      rw [wrap64 (by omega) (by omega)]; rfl
     ·rw [if_neg h1, if_neg h2] at hf
      refine ⟨_, loopW_done (step ?_), .inr rfl⟩
      unfold ranges_Find_L2
      rw [ew, hf]
      refine Post.brT (by simpa using h) (Post.idx (0, 0, 0) _ rfl hm ?_)
      rw [he]
      refine Post.brF (by simpa using h1) (Post.idx (0, 0, 0) _ rfl hm ?_)
      rw [he]
      refine Post.brF (by simpa using h2) (Post.idx (0, 0, 0) _ rfl hm ?_)
      rw [he]
      exact Post.pure rfl
   ·have hf : findB t r o (n + 1) lo hi = o := by
     show (if lo < hi then _ else o) = o
     rw [if_neg h]
    refine ⟨.inl o, loopW_done (Post.run ?_), .inl (by rw [hf])⟩
    show Post (ranges_Find_L2 t r o lo hi) _
    unfold ranges_Find_L2
    exact Post.brF (by simpa using h) (Post.pure rfl)
 obtain ⟨z, hz, hz2⟩ := key (t.length + 1) 0 t.length (by omega) (by omega) (by omega)
 rcases hz2 with rfl | rfl
 ·exact Post.run (Post.altL hz (Post.pure rfl))
 ·exact Post.run (Post.altR hz (Post.pure rfl))
noncomputable def bidicT : List (Int × Int × Int) := bidic_rows_F.getD []
theorem bidic_rows : bidic_rows_F = some bidicT := by kernel_rfl
theorem bidicT_len : decide (bidicT.length ≤ 1000) = true := by kernel_rfl
theorem bidic_table : bidic_Table_F = some bidicT := by
 have hl : bidicT.length ≤ 1000 := of_decide_eq_true bidicT_len
 unfold bidic_Table_F bidic_Table_T
 refine Post.run (Post.bnd bidic_rows (Post.bnd (mk_eq (k := bidicT.length) rfl (by omega)) (Post.bnd (count (L := fun s : (List (Int × Int × Int)) × (List (Int × Int × Int)) × Int × Int => bidic_Table_L4 s.1 s.2.1 s.2.2.1 s.2.2.2) bidicT.length
  (fun k => (tab bidicT.length (fun i => if i < k then bidicT.getD i (0, 0, 0) else (0, 0, 0)), bidicT, (bidicT.length : Int), (k : Int))) ?_ (fun k hk => ?_) ?_) (Post.pure rfl))))
 ·rw [tab_rep]; simp
 ·dsimp only
  unfold bidic_Table_L4
  refine Post.brT (by simpa using hk) (Post.idx (0, 0, 0) k rfl hk ?_)
  refine Post.idx (0, 0, 0) 0 rfl (by simp) (Post.idx (0, 0, 0) 0 rfl (by simp) (Post.idx (0, 0, 0) 0 rfl (by simp) (Post.idx (0, 0, 0) k rfl (by rw [tab_len]; exact hk) (Post.pure ?_))))
  rw [wrap64 (by omega) (by omega), Int.toNat_natCast, tab_set]
  have e : tab bidicT.length (fun i => if i = k then bidicT.getD k (0, 0, 0) else if i < k then bidicT.getD i (0, 0, 0) else (0, 0, 0)) = tab bidicT.length (fun i => if i < k + 1 then bidicT.getD i (0, 0, 0) else (0, 0, 0)) := tab_congr fun p hp => by
   by_cases e : p = k
   ·subst e; simp
   ·by_cases h : p < k
    ·rw [if_neg e, if_pos h, if_pos (by omega)]
    ·rw [if_neg e, if_neg h, if_neg (by omega)]
  rw [← e]; rfl
 ·dsimp only
  unfold bidic_Table_L4
  refine Post.brF (by simp) (Post.pure ?_)
  have e : tab bidicT.length (fun i => if i < bidicT.length then bidicT.getD i (0, 0, 0) else (0, 0, 0)) = bidicT := (tab_ext (0, 0, 0) rfl fun k hk => by rw [if_pos hk]).symm
  rw [e]
theorem bidic_of (rs : List Int) (hn : rs.length ≤ 4194304) : bidic_Of_F rs = some (tab rs.length fun i => finds bidicT (rs.getD i 0) 0) := by
 have hl : bidicT.length ≤ 1000 := of_decide_eq_true bidicT_len
 unfold bidic_Of_F bidic_Of_T
 refine Post.run (Post.bnd bidic_table (Post.bnd (mk_eq (k := rs.length) rfl (by omega)) (Post.bnd (count (L := fun s : (List (Int × Int × Int)) × List Int × List Int × Int × Int => bidic_Of_L4 s.1 s.2.1 s.2.2.1 s.2.2.2.1 s.2.2.2.2) rs.length
  (fun k => (bidicT, tab rs.length (fun i => if i < k then finds bidicT (rs.getD i 0) 0 else 0), rs, (rs.length : Int), (k : Int))) ?_ (fun k hk => ?_) ?_) (Post.pure rfl))))
 ·rw [tab_rep]; simp
 ·dsimp only
  unfold bidic_Of_L4
  refine Post.brT (by simpa using hk) (Post.idx 0 k rfl hk (Post.bnd (find_F _ _ _ (by omega)) (Post.idx 0 k rfl (by rw [tab_len]; exact hk) (Post.pure ?_))))
  rw [wrap64 (by omega) (by omega), Int.toNat_natCast, tab_set]
  have e : tab rs.length (fun i => if i = k then finds bidicT (rs.getD k 0) 0 else if i < k then finds bidicT (rs.getD i 0) 0 else 0) = tab rs.length (fun i => if i < k + 1 then finds bidicT (rs.getD i 0) 0 else 0) := tab_congr fun p hp => by
   by_cases e : p = k
   ·subst e; simp
   ·by_cases h : p < k
    ·rw [if_neg e, if_pos h, if_pos (by omega)]
    ·rw [if_neg e, if_neg h, if_neg (by omega)]
  rw [← e]; rfl
 ·dsimp only
  unfold bidic_Of_L4
  refine Post.brF (by simp) (Post.pure ?_)
  have e : tab rs.length (fun i => if i < rs.length then finds bidicT (rs.getD i 0) 0 else 0) = tab rs.length (fun i => finds bidicT (rs.getD i 0) 0) := tab_congr fun k hk => by rw [if_pos hk]
  rw [e]
end Go.Proofs.YtenbhmjcoljddaaGreatDoor.Bd
namespace Go.Proofs.YtenbhmjcoljddaaGreatDoor.Pa
set_option linter.all false
def Next (r c : Nat → Int) (n a : Nat) (p : Int × Int × Int) : Prop :=
 (∃ i : Nat, a ≤ i ∧ i < n ∧ (∀ k, a ≤ k → k < i → c k ≠ 10) ∧ c i = 10 ∧
  ((r i = 13 ∧ i + 1 < n ∧ r (i + 1) = 10 ∧ p = ((a : Int), ((i + 2 : Nat) : Int), 2)) ∨ (¬ (r i = 13 ∧ i + 1 < n ∧ r (i + 1) = 10) ∧ p = ((a : Int), ((i + 1 : Nat) : Int), 1)))) ∨
 ((∀ k, a ≤ k → k < n → c k ≠ 10) ∧ p = ((a : Int), (n : Int), 0))
theorem Next.to_ {r c : Nat → Int} {n a : Nat} {p : Int × Int × Int} (h : Next r c n a p) (ha : a < n) : ∃ b : Nat, p.2.1 = (b : Int) ∧ a < b ∧ b ≤ n ∧ p.1 = (a : Int) := by
 rcases h with ⟨i, h1, h2, _, _, ⟨_, h3, _, rfl⟩ | ⟨_, rfl⟩⟩ | ⟨_, rfl⟩
 ·exact ⟨i + 2, rfl, by omega, by omega, rfl⟩
 ·exact ⟨i + 1, rfl, by omega, by omega, rfl⟩
 ·exact ⟨n, rfl, ha, by omega, rfl⟩
def Paras (r c : Nat → Int) (n : Nat) : Nat → List (Int × Int × Int) → Nat → Prop
 | a, [], b => a = b
 | a, p :: l, b => a < n ∧ Next r c n a p ∧ Paras r c n p.2.1.toNat l b
theorem Paras.snoc {r c : Nat → Int} {n : Nat} {p : Int × Int × Int} : ∀ {l : List (Int × Int × Int)} {a b : Nat}, Paras r c n a l b → b < n → Next r c n b p → Paras r c n a (l ++ [p]) p.2.1.toNat
 | [], a, b, h, hb, hp => by
  have h : a = b := h
  subst h
  exact ⟨hb, hp, rfl⟩
 | q :: l, a, b, h, hb, hp => ⟨h.1, h.2.1, h.2.2.snoc hb hp⟩
theorem Paras.len {r c : Nat → Int} {n : Nat} : ∀ {l : List (Int × Int × Int)} {a b : Nat}, Paras r c n a l b → a + l.length ≤ b
 | [], a, b, h => by
  have h : a = b := h
  simp [h]
 | q :: l, a, b, h => by
  obtain ⟨d, h1, h2, _, _⟩ := h.2.1.to_ h.1
  have := h.2.2.len
  rw [h1] at this
  simp only [List.length_cons]
  simp at this
  omega
theorem next_F (rs cs : List Int) (a : Nat) (ha : a ≤ rs.length) (hl : rs.length ≤ cs.length) (hn : cs.length ≤ 4194304) :
  ∃ p, para_next_F rs cs (a : Int) = some p ∧ Next (fun i => rs.getD i 0) (fun i => cs.getD i 0) rs.length a p := by
 unfold para_next_F para_next_T
 refine Exists.elim (loopW_rule (f := fun s : List Int × List Int × Int × (Int × Int × Int) × Int => (para_next_L2 s.1 s.2.1 s.2.2.1 s.2.2.2.1 s.2.2.2.2).run)
  (fun s => ∃ i : Nat, a ≤ i ∧ i ≤ rs.length ∧ s = (rs, cs, (a : Int), (0, 0, 0), (i : Int)) ∧ ∀ k, a ≤ k → k < i → cs.getD k 0 ≠ 10)
  (fun s => rs.length - s.2.2.2.2.toNat)
  (fun x => (x = .inl (rs, (a : Int), 0, 0, 0) ∧ ∀ k, a ≤ k → k < rs.length → cs.getD k 0 ≠ 10) ∨ ∃ p, x = .inr p ∧ Next (fun i => rs.getD i 0) (fun i => cs.getD i 0) rs.length a p) ?_
  (rs, cs, (a : Int), (0, 0, 0), (a : Int)) ⟨a, by omega, ha, rfl, fun k h1 h2 => by omega⟩) (fun x hx => ?_)
 ·rintro s ⟨i, h1, h2, rfl, h3⟩
  dsimp only
  unfold para_next_L2
  rw [Tr.run_br]
  by_cases e : i = rs.length
  ·right
   subst e
   rw [if_neg (by simp), Tr.run_pure]
   exact ⟨_, rfl, .inl ⟨rfl, h3⟩⟩
  ·have hi : i < rs.length := by omega
   rw [if_pos (by simp; omega), Tr.run_bnd_some (idx_getD 0 rfl (show i < cs.length by omega)), Tr.run_br, wrap64 (n := (i : Int) + 1) (by omega) (by omega), wrap64 (n := (i : Int) + 2) (by omega) (by omega)]
   by_cases hc : cs.getD i 0 = 10
   ·right
    rw [if_neg (by rw [hc]; simp), Tr.run_bnd_some (idx_getD 0 rfl hi), Tr.run_br]
    have last : ¬ (rs.getD i 0 = 13 ∧ i + 1 < rs.length ∧ rs.getD (i + 1) 0 = 10) → ∃ r, (Tr.pure (Lap.done (Sum.inr ((a : Int), (i : Int) + 1, 1))) : Tr (Lap (List Int × List Int × Int × (Int × Int × Int) × Int) (Sum (List Int × Int × Int × Int × Int) (Int × Int × Int)))).run = some (.done r) ∧
      ((r = .inl (rs, (a : Int), 0, 0, 0) ∧ ∀ k, a ≤ k → k < rs.length → cs.getD k 0 ≠ 10) ∨ ∃ p, r = .inr p ∧ Next (fun i => rs.getD i 0) (fun i => cs.getD i 0) rs.length a p) :=
     fun hno => ⟨_, rfl, .inr ⟨_, rfl, .inl ⟨i, h1, hi, h3, hc, .inr ⟨hno, rfl⟩⟩⟩⟩
    by_cases h13 : rs.getD i 0 = 13
    ·rw [if_pos (by simpa using h13), Tr.run_br]
     by_cases hlt : i + 1 < rs.length
     ·have i1 : idx rs ((i : Int) + 1) = some (rs.getD (i + 1) 0) := idx_getD 0 (k := i + 1) (by omega) hlt
      rw [if_pos (by simp; omega), Tr.run_bnd_some i1, Tr.run_br]
      by_cases h10 : rs.getD (i + 1) 0 = 10
      ·rw [if_pos (by simpa using h10), Tr.run_pure]
       exact ⟨_, rfl, .inr ⟨_, rfl, .inl ⟨i, h1, hi, h3, hc, .inl ⟨h13, hlt, h10, rfl⟩⟩⟩⟩
      ·rw [if_neg (by simpa using h10)]
       exact last fun h => h10 h.2.2
     ·rw [if_neg (by simp; omega)]
      exact last fun h => hlt h.2.1
    ·rw [if_neg (by simpa using h13)]
     exact last fun h => h13 h.1
   ·left
    rw [if_pos (by simpa using hc), Tr.run_pure]
    refine ⟨_, rfl, ⟨i + 1, by omega, by omega, rfl, fun k k1 k2 => ?_⟩, ?_⟩
    ·by_cases ek : k = i
     ·subst ek; exact hc
     ·exact h3 k k1 (by omega)
    ·dsimp only
     omega
 ·obtain ⟨hlp, ⟨rfl, h⟩ | ⟨p, rfl, hp⟩⟩ := hx
  ·rw [Tr.run_alt_inl hlp]
   exact ⟨_, rfl, .inr ⟨h, rfl⟩⟩
  ·rw [Tr.run_alt_inr hlp]
   exact ⟨_, rfl, hp⟩
theorem getD_take (rs : List Int) (n i : Nat) (h : i < n) : (rs.take n).getD i 0 = rs.getD i 0 := by
 simp [List.getD, h]
theorem next_congr {r r' c c' : Nat → Int} {n a : Nat} {p : Int × Int × Int} (hr : ∀ i, i < n → r i = r' i) (hc : ∀ i, i < n → c i = c' i) (h : Next r c n a p) : Next r' c' n a p := by
 rcases h with ⟨i, h1, h2, h3, h4, h5⟩ | ⟨h1, h2⟩
 ·refine .inl ⟨i, h1, h2, fun k k1 k2 => by rw [← hc k (by omega)]; exact h3 k k1 k2, by rw [← hc i h2]; exact h4, ?_⟩
  rcases h5 with ⟨g1, g2, g3, g4⟩ | ⟨g1, g2⟩
  ·exact .inl ⟨by rw [← hr i h2]; exact g1, g2, by rw [← hr _ g2]; exact g3, g4⟩
  ·exact .inr ⟨fun e => g1 ⟨by rw [hr i h2]; exact e.1, e.2.1, by rw [hr _ e.2.1]; exact e.2.2⟩, g2⟩
 ·exact .inr ⟨fun k k1 k2 => by rw [← hc k k2]; exact h1 k k1 k2, h2⟩
theorem split_F (rs cs : List Int) (hn : cs.length ≤ 4194304) : ∃ ps, para_Split_F rs cs = some ps ∧ Paras (fun i => rs.getD i 0) (fun i => cs.getD i 0) (min rs.length cs.length) 0 ps (min rs.length cs.length) := by
 unfold para_Split_F para_Split_T
 generalize hN : min rs.length cs.length = n
 have hmin : (if (cs.length : Int) < (rs.length : Int) then (cs.length : Int) else (rs.length : Int)) = (n : Int) := by split <;> omega
 rw [hmin]
 refine Exists.elim (loopW_rule (f := fun s : List Int × List Int × Int × (List (Int × Int × Int)) × Int => (para_Split_L4 s.1 s.2.1 s.2.2.1 s.2.2.2.1 s.2.2.2.2).run)
  (fun s => ∃ (a : Nat) (ps : List (Int × Int × Int)), a ≤ n ∧ s = (rs, cs, (n : Int), ps, (a : Int)) ∧ Paras (fun i => rs.getD i 0) (fun i => cs.getD i 0) n 0 ps a)
  (fun s => n - s.2.2.2.2.toNat)
  (fun ps => Paras (fun i => rs.getD i 0) (fun i => cs.getD i 0) n 0 ps n) ?_ (rs, cs, (n : Int), [], 0) ⟨0, [], by omega, rfl, rfl⟩) (fun x hx => ?_)
 ·rintro s ⟨a, ps, ha, rfl, hp⟩
  dsimp only
  unfold para_Split_L4
  rw [Tr.run_br]
  by_cases e : a = n
  ·right
   subst e
   rw [if_neg (by simp), Tr.run_pure]
   exact ⟨_, rfl, hp⟩
  ·left
   have ha' : a < n := by omega
   have hcut : cut rs 0 (n : Int) = some (rs.take n) := by
    unfold cut
    rw [if_pos (by omega)]
    simp
   have hlen : (rs.take n).length = n := by rw [List.length_take]; omega
   obtain ⟨p, hpF, hpn⟩ := next_F (rs.take n) cs a (by omega) (by omega) hn
   rw [hlen] at hpn
   have hpn := next_congr (r' := fun i => rs.getD i 0) (c' := fun i => cs.getD i 0) (fun i hi => getD_take rs n i hi) (fun _ _ => rfl) hpn
   obtain ⟨b, hb1, hb2, hb3, _⟩ := hpn.to_ ha'
   have hpl := hp.len
   have i0 : idx [p] 0 = some p := idx_get (k := 0) rfl (by simp)
   rw [if_pos (by simp; omega), Tr.run_bnd_some hcut, Tr.run_bnd_some hpF, Tr.run_bnd_some i0, Tr.run_bnd_some (app_eq (by simp; omega)), Tr.run_bnd_some i0, Tr.run_pure]
   have hs := hp.snoc ha' hpn
   rw [hb1] at hs ⊢
   refine ⟨_, rfl, ⟨b, ps ++ [p], hb3, rfl, by simpa using hs⟩, ?_⟩
   dsimp only
   omega
 ·obtain ⟨hl, hx⟩ := hx
  rw [Tr.run_bnd_some hl]
  exact ⟨x, rfl, hx⟩
theorem Next.det {r c : Nat → Int} {n a : Nat} {p q : Int × Int × Int} (h : Next r c n a p) (g : Next r c n a q) : p = q := by
 rcases h with ⟨i, h1, h2, h3, h4, h5⟩ | ⟨h1, rfl⟩
 ·rcases g with ⟨j, g1, g2, g3, g4, g5⟩ | ⟨g1, rfl⟩
  ·have e : i = j := by
    rcases Nat.lt_trichotomy i j with l | l | l
    ·exact absurd h4 (g3 i h1 l)
    ·exact l
    ·exact absurd g4 (h3 j g1 l)
   subst e
   rcases h5 with ⟨u1, u2, u3, rfl⟩ | ⟨u, rfl⟩
   ·rcases g5 with ⟨_, _, _, rfl⟩ | ⟨v, rfl⟩
    ·rfl
    ·exact absurd ⟨u1, u2, u3⟩ v
   ·rcases g5 with ⟨v1, v2, v3, rfl⟩ | ⟨_, rfl⟩
    ·exact absurd ⟨v1, v2, v3⟩ u
    ·rfl
  ·exact absurd h4 (g1 i h1 h2)
 ·rcases g with ⟨j, g1, g2, g3, g4, g5⟩ | ⟨_, rfl⟩
  ·exact absurd g4 (h1 j g1 g2)
  ·rfl
theorem Paras.det {r c : Nat → Int} {n : Nat} : ∀ {l k : List (Int × Int × Int)} {a : Nat}, Paras r c n a l n → Paras r c n a k n → l = k
 | [], [], _, _, _ => rfl
 | [], q :: k, a, h, g => by
  have h : a = n := h
  have := g.1
  omega
 | p :: l, [], a, h, g => by
  have g : a = n := g
  have := h.1
  omega
 | p :: l, q :: k, a, h, g => by
  have e := h.2.1.det g.2.1
  subst e
  rw [h.2.2.det g.2.2]
end Go.Proofs.YtenbhmjcoljddaaGreatDoor.Pa
namespace Go.Proofs.YtenbhmjcoljddaaGreatDoor.Ex
set_option linter.all false
theorem base_strong (c : Int) : base_strong_F c = some (if c = 0 then 0 else 1) := by
 unfold base_strong_F base_strong_T
 rw [Tr.run_br]
 by_cases h : c = 0
 ·simp [h, Tr.run_pure]
 ·simp [h, Tr.run_pure]
theorem first_F (cs : List Int) (inside : Bool) (other : Int) (hn : cs.length ≤ 4194304) : base_First_F cs inside other = some (first inside other cs 0) := by
 unfold base_First_F base_First_T
 refine Exists.elim (loopW_rule (f := fun s : Bool × Int × Int × List Int × Int × Int => (base_First_L3 s.1 s.2.1 s.2.2.1 s.2.2.2.1 s.2.2.2.2.1 s.2.2.2.2.2).run)
  (fun s => ∃ k d : Nat, k ≤ cs.length ∧ d ≤ k ∧ s = (inside, other, (d : Int), cs, (cs.length : Int), (k : Int)) ∧ first inside other cs 0 = first inside other (cs.drop k) d)
  (fun s => cs.length - s.2.2.2.2.2.toNat)
  (fun r => r = .inl (first inside other cs 0) ∨ r = .inr (first inside other cs 0)) ?_ (inside, other, 0, cs, (cs.length : Int), 0) ⟨0, 0, by omega, by omega, rfl, rfl⟩) (fun r hr => ?_)
 ·rintro s ⟨k, d, hk, hd, rfl, hf⟩
  dsimp only
  unfold base_First_L3
  rw [Tr.run_br]
  by_cases e : k = cs.length
  ·right
   subst e
   rw [if_neg (by simp), Tr.run_pure]
   refine ⟨_, rfl, .inl ?_⟩
   rw [hf]
   simp [first]
  ·have hk' : k < cs.length := by omega
   rw [drop_cons hk'] at hf
   generalize hc : cs.getD k 0 = c at hf
   have nx : ∀ d' : Nat, d' ≤ k + 1 → first inside other cs 0 = first inside other (cs.drop (k + 1)) d' → ∃ s', (Tr.pure (Lap.next (inside, other, (d' : Int), cs, (cs.length : Int), (k : Int) + 1)) : Tr (Lap (Bool × Int × Int × List Int × Int × Int) (Sum Int Int))).run = some (.next s') ∧
     (∃ k d : Nat, k ≤ cs.length ∧ d ≤ k ∧ s' = (inside, other, (d : Int), cs, (cs.length : Int), (k : Int)) ∧ first inside other cs 0 = first inside other (cs.drop k) d) ∧ cs.length - s'.2.2.2.2.2.toNat < cs.length - (k : Int).toNat := by
    intro d' h1 h2
    refine ⟨_, rfl, ⟨k + 1, d', by omega, h1, rfl, h2⟩, ?_⟩
    dsimp only
    omega
   rw [if_pos (by simp; omega), Tr.run_bnd_some (idx_getD 0 rfl hk'), hc, Tr.run_bnd_some (isolate_F c), Tr.run_br, wrap64 (n := (k : Int) + 1) (by omega) (by omega), wrap64 (n := (d : Int) + 1) (by omega) (by omega), wrap64 (n := (d : Int) - 1) (by omega) (by omega)]
   rw [first_cons] at hf
   by_cases h1 : iso c = true
   ·left
    rw [if_pos h1] at hf ⊢
    exact nx (d + 1) (by omega) hf
   ·have tail : ∀ (hd0 : ¬ (c = 22 ∧ 0 < d)) (hin : ¬ (c = 22 ∧ inside = true)), (∃ s', (Tr.bnd (bidic_Strong_F c) fun c_9 => Tr.br c_9 (Tr.br ((d : Int) == 0) (Tr.bnd (base_strong_F c) fun c_10 => Tr.pure (Lap.done (Sum.inr c_10)))
       (Tr.pure (Lap.next (inside, other, (d : Int), cs, (cs.length : Int), (k : Int) + 1)))) (Tr.pure (Lap.next (inside, other, (d : Int), cs, (cs.length : Int), (k : Int) + 1))) : Tr (Lap (Bool × Int × Int × List Int × Int × Int) (Sum Int Int))).run = some (.next s') ∧
      (∃ k d : Nat, k ≤ cs.length ∧ d ≤ k ∧ s' = (inside, other, (d : Int), cs, (cs.length : Int), (k : Int)) ∧ first inside other cs 0 = first inside other (cs.drop k) d) ∧ cs.length - s'.2.2.2.2.2.toNat < cs.length - (k : Int).toNat) ∨
      (∃ r, (Tr.bnd (bidic_Strong_F c) fun c_9 => Tr.br c_9 (Tr.br ((d : Int) == 0) (Tr.bnd (base_strong_F c) fun c_10 => Tr.pure (Lap.done (Sum.inr c_10)))
       (Tr.pure (Lap.next (inside, other, (d : Int), cs, (cs.length : Int), (k : Int) + 1)))) (Tr.pure (Lap.next (inside, other, (d : Int), cs, (cs.length : Int), (k : Int) + 1))) : Tr (Lap (Bool × Int × Int × List Int × Int × Int) (Sum Int Int))).run = some (.done r) ∧
      (r = .inl (first inside other cs 0) ∨ r = .inr (first inside other cs 0))) := by
     intro hd0 hin
     rw [if_neg h1, if_neg hd0, if_neg hin] at hf
     rw [Tr.run_bnd_some (strong_F c), Tr.run_br]
     by_cases h4 : strong c = true
     ·rw [if_pos h4, Tr.run_br]
      by_cases h5 : d = 0
      ·right
       subst h5
       rw [if_pos (by simp), Tr.run_bnd_some (base_strong c), Tr.run_pure]
       rw [if_pos ⟨h4, rfl⟩] at hf
       exact ⟨_, rfl, .inr (by rw [hf])⟩
      ·left
       rw [if_neg (by simp; omega)]
       rw [if_neg (fun h => h5 h.2)] at hf
       exact nx d (by omega) hf
     ·left
      rw [if_neg h4]
      rw [if_neg (fun h => h4 h.1)] at hf
      exact nx d (by omega) hf
    rw [if_neg h1, Tr.run_br]
    by_cases h2 : c = 22
    ·rw [if_pos (by simpa using h2), Tr.run_br]
     by_cases h3 : 0 < d
     ·left
      rw [if_pos (by simp; omega)]
      rw [if_neg h1, if_pos ⟨h2, h3⟩] at hf
      have := nx (d - 1) (by omega) hf
      rw [show ((d - 1 : Nat) : Int) = (d : Int) - 1 by omega] at this
      exact this
     ·rw [if_neg (by simp; omega), Tr.run_br, if_pos (by simpa using h2), Tr.run_br]
      by_cases h6 : inside = true
      ·right
       rw [if_pos h6, Tr.run_pure]
       rw [if_neg h1, if_neg (fun h => h3 h.2), if_pos ⟨h2, h6⟩] at hf
       exact ⟨_, rfl, .inr (by rw [hf])⟩
      ·rw [if_neg h6]
       exact tail (fun h => h3 h.2) (fun h => h6 h.2)
    ·rw [if_neg (by simpa using h2), Tr.run_br, if_neg (by simpa using h2)]
     exact tail (fun h => h2 h.1) (fun h => h2 h.1)
 ·obtain ⟨hl, rfl | rfl⟩ := hr
  ·rw [Tr.run_alt_inl hl]; rfl
  ·rw [Tr.run_alt_inr hl]; rfl
theorem level_F (cs : List Int) (hn : cs.length ≤ 4194304) (d : Int) : base_Level_F cs d = some (if d = 0 then (first false 0 cs 0, none) else if d = 1 then (0, none) else if d = 2 then (1, none) else (0, some (3, ByteArray.mk #[100, 105, 114, 101, 99, 116, 105, 111, 110], d))) := by
 unfold base_Level_F base_Level_T
 refine Post.run ?_
 by_cases h0 : d = 0
 ·rw [if_pos h0]
  exact Post.brT (beq_iff_eq.2 h0) (Post.bnd (first_F _ _ _ hn) (Post.pure rfl))
 ·rw [if_neg h0]
  refine Post.brF (beq_eq_false_iff_ne.2 h0) ?_
  by_cases h1 : d = 1
  ·rw [if_pos h1]
   exact Post.brT (beq_iff_eq.2 h1) (Post.pure rfl)
  ·rw [if_neg h1]
   refine Post.brF (beq_eq_false_iff_ne.2 h1) ?_
   by_cases h2 : d = 2
   ·rw [if_pos h2]
    exact Post.brT (beq_iff_eq.2 h2) (Post.pure rfl)
   ·rw [if_neg h2]
    exact Post.brF (beq_eq_false_iff_ne.2 h2) (Post.bnd (b := some (3, ByteArray.mk #[100, 105, 114, 101, 99, 116, 105, 111, 110], d)) rfl (Post.pure rfl))
end Go.Proofs.YtenbhmjcoljddaaGreatDoor.Ex
namespace Go.Proofs.YtenbhmjcoljddaaGreatDoor
set_option linter.all false
namespace Im
theorem level_F {c l : Int} (hl : 0 ≤ l ∧ l ≤ 100000) : implicit_Level_F c l = some (if l % 2 = 0 then l + (if c = 1 then 1 else if c = 6 then 2 else if c = 3 then 2 else 0) else l + (if c = 0 then 1 else if c = 6 then 1 else if c = 3 then 1 else 0)) := by
 have hm : l.tmod 2 = l % 2 := Int.tmod_eq_emod_of_nonneg hl.1
 unfold implicit_Level_F implicit_Level_T implicit_aboveEven_F implicit_aboveEven_T implicit_aboveOdd_F implicit_aboveOdd_T
 simp only [Tr.run_br, Tr.run_bnd, Tr.run_pure, hm, beq_iff_eq]
 repeat' split
 all_goals first | contradiction | (simp only [Option.bind_some, Tr.run_pure]; rw [wrap64 (by omega) (by omega)])
end Im
abbrev Sq := List Int × Int × Int × Int
theorem closings_none (rs cs : List Int) {n : Nat} (h1 : rs.length = n) (h2 : cs.length = n) (hn : n ≤ 4194304) (h : ∀ k, k < n → Nu.brV (rs.getD k 0) = (0, 0)) : pairs_closings_F rs cs = some (List.replicate n 0) := by
 unfold pairs_closings_F pairs_closings_T
 have e : (if (cs.length : Int) < (rs.length : Int) then (cs.length : Int) else (rs.length : Int)) = (n : Int) := by rw [h1, h2]; split <;> rfl
 rw [e]
 refine Post.run (Post.bnd (mk_eq (k := n) rfl (by omega)) (Post.altL (b := List.replicate n 0) (count (L := fun s : List Int × List Int × List Int × List (Int × Int) × Int × Int => pairs_closings_L5 s.1 s.2.1 s.2.2.1 s.2.2.2.1 s.2.2.2.2.1 s.2.2.2.2.2) n (fun k => (rs, cs, List.replicate n 0, [], (n : Int), (k : Int))) rfl (fun k hk => ?_) ?_) (Post.pure rfl)))
 ·dsimp only
  unfold pairs_closings_L5
  refine Post.brT (by rw [decide_eq_true_eq]; omega) (Post.idx 0 k rfl (by omega) (Post.br (fun _ => Post.pure (by rw [wrap_succ (by omega)])) (fun _ => Post.idx 0 k rfl (by omega) (Post.bnd (Nu.brack_F _) ?_))))
  rw [h k hk]
  exact Post.brF (by decide) (Post.brF (by decide) (Post.pure (by rw [wrap_succ (by omega)])))
 ·dsimp only
  unfold pairs_closings_L5
  exact Post.brF (by rw [decide_eq_false_iff_not]; omega) (Post.pure rfl)
theorem pairs_none (rs cs : List Int) {n : Nat} (h1 : rs.length = n) (h2 : cs.length = n) (hn : n ≤ 4194304) (h : ∀ k, k < n → Nu.brV (rs.getD k 0) = (0, 0)) : pairs_Of_F rs cs = some [] := by
 unfold pairs_Of_F pairs_Of_T
 refine Post.run (Post.bnd (closings_none rs cs h1 h2 hn h) ?_)
 rw [List.length_replicate]
 refine Post.bnd (count (L := fun s : List (Int × Int) × List Int × Int × Int => pairs_Of_L4 s.1 s.2.1 s.2.2.1 s.2.2.2) n (fun k => ([], List.replicate n 0, (n : Int), (k : Int))) (r := []) rfl (fun k hk => ?_) ?_) (Post.pure rfl)
 ·dsimp only
  unfold pairs_Of_L4
  refine Post.brT (by rw [decide_eq_true_eq]; omega) (Post.idx 0 k rfl (by rw [List.length_replicate]; exact hk) (Post.brF ?_ (Post.pure (by rw [wrap_succ (by omega)]))))
  simp [List.getD, hk]
 ·dsimp only
  unfold pairs_Of_L4
  exact Post.brF (by rw [decide_eq_false_iff_not]; omega) (Post.pure rfl)
theorem brackets_none (rs first cs : List Int) (l sos : Int) {n : Nat} (h1 : rs.length = n) (h2 : first.length = n) (h3 : cs.length = n) (hn : n ≤ 4194304) (h : ∀ k, k < n → Nu.brV (rs.getD k 0) = (0, 0)) : neutral_Brackets_F rs first cs l sos = some cs := by
 unfold neutral_Brackets_F neutral_Brackets_T
 refine Post.run (Post.bnd (Nu.clone_F cs (by omega)) (Post.brF (by rw [h1, h3]; simp) (Post.brF (by rw [h2, h3]; simp) (Post.bnd (pairs_none rs cs h1 h3 hn h) (Post.bnd (loopW_done (r := cs) ?_) (Post.pure rfl))))))
 dsimp only
 unfold neutral_Brackets_L5
 exact Post.run (Post.brF (by decide) (Post.pure rfl))
noncomputable def br (rs first cs : List Int) (l sos : Int) : List Int := (neutral_Brackets_F rs first cs l sos).getD cs
theorem br_F (rs first cs : List Int) (l sos : Int) {n : Nat} (h1 : rs.length = n) (h2 : first.length = n) (h3 : cs.length = n) (hn : n ≤ 4194304) : neutral_Brackets_F rs first cs l sos = some (br rs first cs l sos) ∧ (br rs first cs l sos).length = n := by
 obtain ⟨r, hr, hb⟩ := Nu.brackets_any rs first cs sos (Nu.emb l) h1 h2 h3 hn
 have := hb l rfl
 unfold br
 rw [this]
 exact ⟨rfl, hr⟩
def rn (xs ps : List Int) : List Int := tab ps.length fun k => xs.getD (ps.getD k 0).toNat 0
theorem rn_len (xs ps : List Int) : (rn xs ps).length = ps.length := tab_len _ _
def wk (classes : List Int) (s : Sq) : List Int := tab s.1.length (Wk.W s.1.length s.2.2.1 (fun i => (rn classes s.1).getD i 0))
def rsB (b : List Int) (s : Sq) : List Int := tab s.1.length (Nu.rest (Nu.fn b) s.2.2.1 s.2.2.2 (Nu.emb s.2.1) s.1.length)
noncomputable def rsv (rs classes : List Int) (s : Sq) : List Int := rsB (br (rn rs s.1) (rn classes s.1) (wk classes s) s.2.1 s.2.2.1) s
theorem rsv_len (rs classes : List Int) (s : Sq) : (rsv rs classes s).length = s.1.length := tab_len _ _
structure Good (n : Nat) (s : Sq) : Prop where
 few : s.1.length ≤ 4194304
 pl : ∀ k, k < s.1.length → ∃ q : Nat, s.1.getD k 0 = (q : Int) ∧ q < n
 sos : s.2.2.1 = 0 ∨ s.2.2.1 = 1
 lv : 0 ≤ s.2.1 ∧ s.2.1 ≤ 125
theorem lresolve_F (rs classes : List Int) (s : Sq) {n : Nat} (h1 : rs.length = n) (h2 : classes.length = n) (hg : Good n s) : levels_resolve_F rs classes s = some (rsv rs classes s) := by
 unfold levels_resolve_F levels_resolve_T
 have hm := hg.few
 have r0 : List.replicate s.1.length (0 : Int) = tab s.1.length (fun _ => 0) := tab_rep _ _
 refine Post.run (Post.bnd (mk_eq (k := s.1.length) rfl (by omega)) (Post.bnd (mk_eq (k := s.1.length) rfl (by omega)) ?_))
 rw [r0]
 refine Post.bnd (count (L := fun t : List Int × List Int × Sq × List Int × List Int × List Int × Int × Int => levels_resolve_L4 t.1 t.2.1 t.2.2.1 t.2.2.2.1 t.2.2.2.2.1 t.2.2.2.2.2.1 t.2.2.2.2.2.2.1 t.2.2.2.2.2.2.2) s.1.length
  (fun k => (rs, classes, s, tab s.1.length (part (fun k => rs.getD (s.1.getD k 0).toNat 0) (fun _ => 0) k), tab s.1.length (part (fun k => classes.getD (s.1.getD k 0).toNat 0) (fun _ => 0) k), s.1, (s.1.length : Int), (k : Int)))
  (r := (s, rn rs s.1, rn classes s.1)) rfl (fun k hk => ?_) ?_) ?_
 ·dsimp only
  unfold levels_resolve_L4
  obtain ⟨q, hq, hqn⟩ := hg.pl k hk
  refine Post.brT (by rw [decide_eq_true_eq]; omega) (Post.idx 0 k rfl hk ?_)
  rw [hq]
  refine Post.idx 0 q rfl (by omega) (Post.idx 0 q rfl (by omega) (Post.idx 0 k rfl (by rw [tab_len]; exact hk) (Post.idx 0 k rfl (by rw [tab_len]; exact hk) (Post.pure ?_))))
  rw [wrap_succ (by omega), toNat_nat, part_set _ (by rw [hq]; rfl), part_set _ (by rw [hq]; rfl)]
 ·dsimp only
  unfold levels_resolve_L4
  rw [part_end, part_end]
  exact Post.brF (by rw [decide_eq_false_iff_not]; omega) (Post.pure rfl)
 ·dsimp only
  have hw := Wk.resolve_list s.2.2.1 hg.sos (rn classes s.1) (by rw [rn_len]; omega)
  rw [rn_len] at hw
  obtain ⟨hb, hbl⟩ := br_F (rn rs s.1) (rn classes s.1) (wk classes s) s.2.1 s.2.2.1 (n := s.1.length) (rn_len _ _) (rn_len _ _) (tab_len _ _) hm
  refine Nu.post_box (Post.bnd hw (Nu.post_box (Nu.post_box (Post.bnd hb (Nu.post_box (Nu.post_box (Nu.post_box (Post.bnd (Nu.rest_F _ _ _ _ (by omega)) (Post.pure ?_)))))))))
  rw [hbl]
  rfl
def imp (c l : Int) : Int := if l % 2 = 0 then l + (if c = 1 then 1 else if c = 6 then 2 else if c = 3 then 2 else 0) else l + (if c = 0 then 1 else if c = 6 then 1 else if c = 3 then 1 else 0)
theorem imp_F {c l : Int} (hl : 0 ≤ l ∧ l ≤ 125) : implicit_Level_F c l = some (imp c l) := Im.level_F (by omega)
theorem imp_ge (c l : Int) : l ≤ imp c l := by unfold imp; repeat' split <;> omega
def pl (s : Sq) (k : Nat) : Nat := (s.1.getD k 0).toNat
def inner (cs : List Int) (s : Sq) (c : List Int) : Nat → List Int → List Int
 | 0, lv => lv
 | k + 1, lv => if cs.getD (pl s k) 0 = 10 then inner cs s c k lv else (inner cs s c k lv).set (pl s k) (imp (c.getD k 0) s.2.1)
theorem inner_succ (cs : List Int) (s : Sq) (c : List Int) (k : Nat) (lv : List Int) : inner cs s c (k + 1) lv = if cs.getD (pl s k) 0 = 10 then inner cs s c k lv else (inner cs s c k lv).set (pl s k) (imp (c.getD k 0) s.2.1) := rfl
theorem inner_len (cs : List Int) (s : Sq) (c : List Int) (lv : List Int) : ∀ k, (inner cs s c k lv).length = lv.length
 | 0 => rfl
 | k + 1 => by rw [inner_succ]; split; exact inner_len cs s c lv k; rw [List.length_set]; exact inner_len cs s c lv k
theorem inner_F (rs cs lv classes : List Int) (s : Sq) (L : List Sq) (a b : Int) {n : Nat} (h1 : lv.length = n) (h2 : cs.length = n) (hg : Good n s) {c : List Int} (hc : c.length = s.1.length) :
  loopW (fun t : List Int × List Int × List Int × List Int × Sq × List Sq × Int × Int × List Int × Int × Int => (levels_Paragraph_L8 t.1 t.2.1 t.2.2.1 t.2.2.2.1 t.2.2.2.2.1 t.2.2.2.2.2.1 t.2.2.2.2.2.2.1 t.2.2.2.2.2.2.2.1 t.2.2.2.2.2.2.2.2.1 t.2.2.2.2.2.2.2.2.2.1 t.2.2.2.2.2.2.2.2.2.2).run) (rs, cs, lv, classes, s, L, a, b, c, (c.length : Int), 0) = some (rs, cs, inner cs s c s.1.length lv, classes, L, a, b) := by
 have hm := hg.few
 refine count (L := fun t : List Int × List Int × List Int × List Int × Sq × List Sq × Int × Int × List Int × Int × Int => levels_Paragraph_L8 t.1 t.2.1 t.2.2.1 t.2.2.2.1 t.2.2.2.2.1 t.2.2.2.2.2.1 t.2.2.2.2.2.2.1 t.2.2.2.2.2.2.2.1 t.2.2.2.2.2.2.2.2.1 t.2.2.2.2.2.2.2.2.2.1 t.2.2.2.2.2.2.2.2.2.2) s.1.length
  (fun k => (rs, cs, inner cs s c k lv, classes, s, L, a, b, c, (c.length : Int), (k : Int))) rfl (fun k hk => ?_) ?_
 ·dsimp only
  unfold levels_Paragraph_L8
  obtain ⟨q, hq, hqn⟩ := hg.pl k hk
  have hpl : pl s k = q := by unfold pl; rw [hq]; rfl
  refine Post.brT (by rw [decide_eq_true_eq]; omega) (Post.idx 0 k rfl (by omega) (Nu.post_box (Post.idx 0 k rfl hk ?_)))
  rw [hq]
  refine Post.idx 0 q rfl (by omega) (Post.br (fun e => ?_) (fun e => ?_))
  ·rw [bne_iff_ne] at e
   refine Nu.post_box (Post.bnd (imp_F hg.lv) (Post.idx 0 q rfl (by rw [inner_len]; omega) (Post.pure ?_)))
   rw [wrap_succ (by omega), inner_succ, hpl, if_neg e, toNat_nat]
  ·rw [bne_eq_false_iff_eq] at e
   refine Post.pure ?_
   rw [wrap_succ (by omega), inner_succ, hpl, if_pos e]
 ·dsimp only
  unfold levels_Paragraph_L8
  exact Post.brF (by rw [decide_eq_false_iff_not]; omega) (Post.pure rfl)
def fin (cs : List Int) (f : Sq → List Int) : List Sq → List Int → List Int
 | [], lv => lv
 | s :: r, lv => fin cs f r (inner cs s (f s) s.1.length lv)
theorem fin_len (cs : List Int) (f : Sq → List Int) : ∀ (l : List Sq) (lv : List Int), (fin cs f l lv).length = lv.length
 | [], _ => rfl
 | s :: r, lv => by unfold fin; rw [fin_len cs f r, inner_len]
def pg (cs : List Int) (l : Int) : Ex.Pg := ⟨Ex.lvs cs l, cs.length, cs, l⟩
def sqs (cs : List Int) (l : Int) : List Sq := ((pg cs l).Sp (pg cs l).R).2
noncomputable def par (rs cs : List Int) (l : Int) : List Int := fin cs (rsv rs (tab cs.length (Ex.cls cs l))) (sqs cs l) (tab cs.length (Ex.lvs cs l))
theorem par_len (rs cs : List Int) (l : Int) : (par rs cs l).length = cs.length := by unfold par; rw [fin_len, tab_len]
theorem pg_ok {cs : List Int} {l : Int} (hl : 0 ≤ l ∧ l ≤ 1) (hn : cs.length ≤ 2097152) : (pg cs l).Ok := by
 refine ⟨hn, rfl, fun i => ?_⟩
 have hf := (Ex.lvs_facts cs hl i).2.1
 show Ex.lvs cs l i ≠ -5
 by_cases e : Ex.lvs cs l i = -1
 ·rw [e]; omega
 ·have := hf e; omega
theorem seqs_at (cs : List Int) {l : Int} (hl : 0 ≤ l ∧ l ≤ 1) (hn : cs.length ≤ 2097152) : seqs_Of_F (tab cs.length (Ex.lvs cs l)) cs l = some (sqs cs l) := Ex.seqs_F (p := pg cs l) (pg_ok hl hn)
end Go.Proofs.YtenbhmjcoljddaaGreatDoor
namespace Go.Proofs.YtenbhmjcoljddaaGreatDoor
set_option linter.all false
open Ex (Chain fs ls Pg)
def Inc : Nat → List Int → Nat → Prop
 | a, [], b => a ≤ b
 | a, x :: r, b => ∃ q : Nat, x = (q : Int) ∧ a ≤ q ∧ q < b ∧ Inc (q + 1) r b
theorem Inc.le : ∀ {l : List Int} {a b : Nat}, Inc a l b → a + l.length ≤ b
 | [], _, _, h => h
 | x :: r, a, b, ⟨q, _, h1, _, h2⟩ => by have := h2.le; simp only [List.length_cons]; omega
theorem Inc.at_ : ∀ {l : List Int} {a b : Nat}, Inc a l b → ∀ k, k < l.length → ∃ q : Nat, l.getD k 0 = (q : Int) ∧ a ≤ q ∧ q < b
 | [], _, _, _, k, hk => by cases hk
 | x :: r, a, b, ⟨q, e, h1, h3, h2⟩, k, hk => by
  cases k with
  | zero => exact ⟨q, e, h1, h3⟩
  | succ k =>
   obtain ⟨p, g1, g2, g3⟩ := h2.at_ k (by simpa using hk)
   exact ⟨p, by simpa using g1, by omega, g3⟩
theorem Inc.mono : ∀ {l : List Int} {a b c : Nat}, Inc a l b → b ≤ c → Inc a l c
 | [], _, _, _, h, hc => Nat.le_trans h hc
 | x :: r, a, b, c, ⟨q, e, h1, h3, h2⟩, hc => ⟨q, e, h1, by omega, h2.mono hc⟩
theorem Inc.app : ∀ {l m : List Int} {a b c d : Nat}, Inc a l b → Inc c m d → b ≤ c → Inc a (l ++ m) d
 | [], m, a, b, c, d, h, g, hb => by
  have h : a ≤ b := h
  cases m with
  | nil => exact Nat.le_trans (Nat.le_trans h hb) g
  | cons x r => obtain ⟨q, e, g1, g2⟩ := g; exact ⟨q, e, by omega, g2⟩
 | x :: r, m, a, b, c, d, ⟨q, e, h1, h3, h2⟩, g, hb => by
  have := g.le
  exact ⟨q, e, h1, by omega, h2.app g hb⟩
theorem chain_inc {lv : Nat → Int} : ∀ {r s : List Int} {a b : Nat}, Chain lv a (r ++ s) b → r ≠ [] → ∃ f l : Nat, r.getD 0 0 = (f : Int) ∧ r.getD (r.length - 1) 0 = (l : Int) ∧ Inc f r (l + 1) ∧ Chain lv (l + 1) s b
 | [], _, _, _, _, h => absurd rfl h
 | [p], s, a, b, h, _ => by
  obtain ⟨q, rfl, h1, h2, h3, h4⟩ := h
  exact ⟨q, q, rfl, rfl, ⟨q, rfl, Nat.le_refl _, by omega, Nat.le_refl _⟩, h4⟩
 | p :: q :: r, s, a, b, h, _ => by
  obtain ⟨x, rfl, h1, h2, h3, h4⟩ := h
  obtain ⟨f, l, g1, g2, g3, g4⟩ := chain_inc (r := q :: r) (s := s) h4 (by simp)
  obtain ⟨y, e, k1, k2, k3⟩ := g3
  have hy : x < y := by
   obtain ⟨z, e2, k4, _⟩ := h4
   have : (y : Int) = (z : Int) := e.symm.trans e2
   omega
  have hle := k3.le
  exact ⟨x, l, rfl, by simpa using g2, ⟨x, rfl, Nat.le_refl _, by omega, ⟨y, e, hy, k2, k3⟩⟩, g4⟩
theorem run_inc {lv : Nat → Int} : ∀ {rs : List (List Int)} {a b : Nat}, Chain lv a rs.flatten b → (∀ r ∈ rs, r ≠ []) → ∀ k, k < rs.length → Inc (fs rs k) (rs.getD k []) (ls rs k + 1)
 | [], _, _, _, _, k, hk => by cases hk
 | r :: rs, a, b, h, hne, k, hk => by
  have h : Chain lv a (r ++ rs.flatten) b := h
  obtain ⟨f, l, g1, g2, g3, g4⟩ := chain_inc h (hne r (by simp))
  cases k with
  | zero =>
   have ef : fs (r :: rs) 0 = f := by unfold fs; rw [show (r :: rs).getD 0 [] = r from rfl, g1]; rfl
   have el : ls (r :: rs) 0 = l := by unfold ls; rw [show (r :: rs).getD 0 [] = r from rfl, g2]; rfl
   rw [ef, el]
   exact g3
  | succ k => exact run_inc g4 (fun r h => hne r (List.mem_cons_of_mem _ h)) k (by simpa using hk)
theorem pg_inc {p : Pg} (h : p.Ok) {k : Nat} (hk : k < p.R) : Inc (fs p.rs k) (p.rs.getD k []) (ls p.rs k + 1) := run_inc (Ex.runsOf_good p.lv h.far p.n).1 (Ex.runsOf_ne p.lv p.n) k hk
theorem cat_inc {p : Pg} (h : p.Ok) : ∀ (d k : Nat), k < p.R → Inc (fs p.rs k) (p.cat (k :: p.T d k)) p.n
 | 0, k, hk => by
  have := (h.run hk).hi
  rw [show p.T 0 k = [] from rfl, p.cat_cons, show p.cat [] = [] from rfl, List.append_nil]
  exact (pg_inc h hk).mono (by omega)
 | d + 1, k, hk => by
  have hi := (h.run hk).hi
  rcases h.nx hk with e | ⟨j, e, h1, h2⟩
  ·rw [Pg.T_end e, p.cat_cons, show p.cat [] = [] from rfl, List.append_nil]
   exact (pg_inc h hk).mono (by omega)
  ·rw [Pg.T_more e, p.cat_cons]
   exact (pg_inc h hk).app (cat_inc h d j h2) (h.rise h1 h2)
theorem cl_two (x : Int) : Pg.cl x = 0 ∨ Pg.cl x = 1 := by
 unfold Ex.Pg.cl
 by_cases h : x > 0
 ·rw [if_pos h]
  by_cases g : x.tmod 2 = 1
  ·rw [if_pos g]; exact .inr rfl
  ·rw [if_neg g]; exact .inl rfl
 ·rw [if_neg h]; exact .inl rfl
theorem sqs_good {cs : List Int} {l : Int} (hl : 0 ≤ l ∧ l ≤ 1) (hn : cs.length ≤ 2097152) : ∀ s ∈ sqs cs l, Good cs.length s ∧ l ≤ s.2.1 ∧ (s.2.2.2 = 0 ∨ s.2.2.2 = 1) := by
 intro s hs
 have h := pg_ok hl hn
 obtain ⟨k, hk, rfl⟩ := Pg.Sp_mem (pg cs l) _ s hs
 have hi := cat_inc h (pg cs l).R k hk
 have hle := hi.le
 have hgf := (h.run hk).gf
 have hf := (Ex.lvs_facts cs hl (fs (pg cs l).rs k)).2.1 hgf
 have e1 : ((pg cs l).sq k).1 = (pg cs l).cat (k :: (pg cs l).T (pg cs l).R k) := rfl
 have e2 : ((pg cs l).sq k).2.1 = Ex.lvs cs l (fs (pg cs l).rs k) := rfl
 have e3 : (pg cs l).n = cs.length := rfl
 refine ⟨⟨?_, fun i hi2 => ?_, cl_two _, ?_⟩, ?_, cl_two _⟩
 ·rw [e1]; omega
 ·rw [e1] at hi2 ⊢
  obtain ⟨q, q1, _, q2⟩ := hi.at_ i hi2
  exact ⟨q, q1, by omega⟩
 ·rw [e2]; omega
 ·rw [e2]; exact hf.1
theorem sqs_len {cs : List Int} {l : Int} (hl : 0 ≤ l ∧ l ≤ 1) (hn : cs.length ≤ 2097152) : (sqs cs l).length ≤ cs.length := Nat.le_trans ((pg cs l).Sp_len _).2 (pg_ok hl hn).few
theorem fin_F (rs cs classes : List Int) {n : Nat} (h1 : rs.length = n) (h2 : classes.length = n) (h3 : cs.length = n) (L : List Sq) (hL : L.length ≤ 4194304) (hg : ∀ s ∈ L, Good n s) : ∀ (d k : Nat) (lv : List Int), L.length = k + d → lv.length = n →
  loopW (fun t : List Int × List Int × List Int × List Int × List Sq × Int × Int => (levels_Paragraph_L5 t.1 t.2.1 t.2.2.1 t.2.2.2.1 t.2.2.2.2.1 t.2.2.2.2.2.1 t.2.2.2.2.2.2).run) (rs, cs, lv, classes, L, (L.length : Int), (k : Int)) = some (fin cs (rsv rs classes) (L.drop k) lv)
 | 0, k, lv, hd, hlv => by
  rw [List.drop_of_length_le (by omega)]
  refine loopW_done (Post.run ?_)
  dsimp only
  unfold levels_Paragraph_L5
  exact Post.brF (by rw [decide_eq_false_iff_not]; omega) (Post.pure rfl)
 | d + 1, k, lv, hd, hlv => by
  have hk : k < L.length := by omega
  have hm : L[k] ∈ L := List.getElem_mem hk
  have hgk := hg _ hm
  rw [List.drop_eq_getElem_cons hk]
  unfold fin
  refine loopW_next (Post.run ?_) (fin_F rs cs classes h1 h2 h3 L hL hg d (k + 1) (inner cs L[k] (rsv rs classes L[k]) L[k].1.length lv) (by omega) (by rw [inner_len]; exact hlv))
  dsimp only
  unfold levels_Paragraph_L5
  refine Post.brT (by rw [decide_eq_true_eq]; omega) (Post.bnd (idx_get (k := k) rfl hk) (Nu.post_box (Post.bnd (lresolve_F rs classes L[k] h1 h2 hgk) (Post.bnd (inner_F rs cs lv classes L[k] L _ _ hlv h3 hgk (rsv_len _ _ _)) (Post.pure ?_)))))
  dsimp only
  rw [wrap_succ (by omega)]
theorem paragraph_F (rs cs : List Int) {l : Int} (hl : 0 ≤ l ∧ l ≤ 1) (h : rs.length = cs.length) (hn : cs.length ≤ 2097152) : levels_Paragraph_F rs cs l = some (par rs cs l) := by
 unfold levels_Paragraph_F levels_Paragraph_T
 have hs := sqs_len hl hn
 refine Post.run (Post.brF (by rw [h]; simp) (Post.bnd (Ex.resolve_F cs hl (by omega)) (Post.bnd (seqs_at cs hl hn) (Post.bnd (fin_F rs cs (tab cs.length (Ex.cls cs l)) h (tab_len _ _) rfl (sqs cs l) (by omega) (fun s hs => (sqs_good hl hn s hs).1) (sqs cs l).length 0 (tab cs.length (Ex.lvs cs l)) (by omega) (tab_len _ _)) (Post.pure ?_)))))
 rfl
def AtLeast (l : Int) (lv : List Int) : Prop := ∀ i, i < lv.length → lv.getD i 0 = -1 ∨ l ≤ lv.getD i 0
theorem atLeast_set {l x : Int} {lv : List Int} {j : Nat} (h : AtLeast l lv) (hx : l ≤ x) : AtLeast l (lv.set j x) := fun i hi => by
 rw [List.length_set] at hi
 have := h i hi
 by_cases e : j = i
 ·subst e
  rw [show (lv.set j x).getD j 0 = x by simp [List.getD, hi]]
  exact .inr hx
 ·rw [show (lv.set j x).getD i 0 = lv.getD i 0 by simp [List.getD, List.getElem?_set, e]]
  exact this
theorem atLeast_inner {l : Int} (cs : List Int) {s : Sq} (c : List Int) (hl : l ≤ s.2.1) : ∀ (k : Nat) {lv : List Int}, AtLeast l lv → AtLeast l (inner cs s c k lv)
 | 0, _, h => h
 | k + 1, lv, h => by
  rw [inner_succ]
  split
  ·exact atLeast_inner cs c hl k h
  ·exact atLeast_set (atLeast_inner cs c hl k h) (Int.le_trans hl (imp_ge _ _))
theorem atLeast_fin {l : Int} (cs : List Int) (f : Sq → List Int) : ∀ (L : List Sq) {lv : List Int}, (∀ s ∈ L, l ≤ s.2.1) → AtLeast l lv → AtLeast l (fin cs f L lv)
 | [], _, _, h => h
 | s :: r, lv, hL, h => by
  unfold fin
  exact atLeast_fin cs f r (fun s hs => hL s (List.mem_cons_of_mem _ hs)) (atLeast_inner cs _ (hL s List.mem_cons_self) _ h)
theorem par_least (rs cs : List Int) {l : Int} (hl : 0 ≤ l ∧ l ≤ 1) (hn : cs.length ≤ 2097152) : AtLeast l (par rs cs l) := by
 unfold par
 refine atLeast_fin cs _ _ (fun s hs => (sqs_good hl hn s hs).2.1) fun i hi => ?_
 rw [tab_len] at hi
 rw [tab_getD _ _ hi]
 by_cases e : Ex.lvs cs l i = -1
 ·exact .inl e
 ·exact .inr ((Ex.lvs_facts cs hl i).2.1 e).1
end Go.Proofs.YtenbhmjcoljddaaGreatDoor
namespace Go.Proofs.YtenbhmjcoljddaaGreatDoor
set_option linter.all false
abbrev P3 := Int × Int × Int
abbrev Tx := List Int × List Int × List P3 × List Int
noncomputable def cl4 (rs : List Int) : List Int := tab rs.length fun i => Bd.finds Bd.bidicT (rs.getD i 0) 0
theorem cl4_len (rs : List Int) : (cl4 rs).length = rs.length := tab_len _ _
def bs (d : Int) (part : List Int) : Int := if d = 0 then Ex.first false 0 part 0 else d - 1
theorem bs_F (part : List Int) (hn : part.length ≤ 4194304) {d : Int} (hd : 0 ≤ d ∧ d ≤ 2) : base_Level_F part d = some (bs d part, none) := by
 rw [Ex.level_F part hn d]
 unfold bs
 have : d = 0 ∨ d = 1 ∨ d = 2 := by omega
 rcases this with rfl | rfl | rfl <;> rfl
theorem bs_two {d : Int} (hd : 0 ≤ d ∧ d ≤ 2) (part : List Int) : 0 ≤ bs d part ∧ bs d part ≤ 1 := by
 unfold bs
 split
 ·rcases Ex.first_two false part 0 with h | h <;> omega
 ·omega
def prt (xs : List Int) (p : P3) : List Int := (xs.take p.2.1.toNat).drop p.1.toNat
noncomputable def lvo (rs cs : List Int) (d : Int) (l : List P3) : List Int := (l.map fun p => par (prt rs p) (prt cs p) (bs d (prt cs p))).flatten
def bso (cs : List Int) (d : Int) (l : List P3) : List Int := l.map fun p => bs d (prt cs p)
theorem prt_len {xs : List Int} {a b : Nat} (h : a ≤ b) (hb : b ≤ xs.length) (q : Int) : (prt xs ((a : Int), (b : Int), q)).length = b - a := by
 unfold prt
 rw [List.length_drop, List.length_take, toNat_nat, toNat_nat]
 omega
theorem prt_cut {xs : List Int} {p : P3} {a b : Nat} (h1 : p.1 = (a : Int)) (h2 : p.2.1 = (b : Int)) (h : a ≤ b) (hb : b ≤ xs.length) : cut xs p.1 p.2.1 = some (prt xs p) := by
 rw [cut_drop h1 h2 h hb]
 unfold prt
 rw [h1, h2, toNat_nat, toNat_nat]
theorem of_loop (rs cs : List Int) {n : Nat} (h1 : rs.length = n) (h2 : cs.length = n) (hn : n ≤ 2097152) {d : Int} (hd : 0 ≤ d ∧ d ≤ 2) (z : Tx) (ps : List P3) (hps : ps.length ≤ n) {r c : Nat → Int} : ∀ (j k a : Nat) (Lv Bs : List Int), ps.length = k + j → Pa.Paras r c n a (ps.drop k) n → Lv.length = a → Bs.length = k →
  loopW (fun s : List Int × Int × Tx × Tx × Int × Int => (levels_Of_L7 s.1 s.2.1 s.2.2.1 s.2.2.2.1 s.2.2.2.2.1 s.2.2.2.2.2).run) (rs, d, z, (cs, Lv, ps, Bs), (ps.length : Int), (k : Int)) = some (.inl (z, (cs, Lv ++ lvo rs cs d (ps.drop k), ps, Bs ++ bso cs d (ps.drop k))))
 | 0, k, a, Lv, Bs, hj, hp, hL, hB => by
  rw [List.drop_of_length_le (by omega)]
  refine loopW_done (Post.run ?_)
  dsimp only
  unfold levels_Of_L7
  refine Post.brF (by rw [decide_eq_false_iff_not]; omega) (Post.pure ?_)
  simp [lvo, bso]
 | j + 1, k, a, Lv, Bs, hj, hp, hL, hB => by
  have hk : k < ps.length := by omega
  rw [List.drop_eq_getElem_cons hk] at hp ⊢
  obtain ⟨han, hnx, hrest⟩ := hp
  obtain ⟨b, e2, hab, hbn, e1⟩ := hnx.to_ han
  generalize hpk : ps[k] = p at *
  have hb := bs_two hd (prt cs p)
  have hl1 : (prt rs p).length = b - a := by rw [show p = ((a : Int), (b : Int), p.2.2) by rw [← e1, ← e2]]; exact prt_len (by omega) (by omega) _
  have hl2 : (prt cs p).length = b - a := by rw [show p = ((a : Int), (b : Int), p.2.2) by rw [← e1, ← e2]]; exact prt_len (by omega) (by omega) _
  have hpl : (par (prt rs p) (prt cs p) (bs d (prt cs p))).length = b - a := by rw [par_len]; exact hl2
  refine loopW_next (s' := (rs, d, z, (cs, Lv ++ par (prt rs p) (prt cs p) (bs d (prt cs p)), ps, Bs ++ [bs d (prt cs p)]), (ps.length : Int), ((k + 1 : Nat) : Int))) (Post.run ?_) ?_
  ·dsimp only
   unfold levels_Of_L7
   refine Post.brT (by rw [decide_eq_true_eq]; omega) (Post.bnd (idx_get (k := k) rfl hk) ?_)
   rw [hpk]
   have c1 := prt_cut (xs := cs) e1 e2 (by omega) (by omega)
   have c2 := prt_cut (xs := rs) e1 e2 (by omega) (by omega)
   have c3 := bs_F (prt cs p) (by omega) hd
   have c4 := paragraph_F (prt rs p) (prt cs p) hb (by omega) (by omega)
   have c5 : app 17592186044416 Bs [bs d (prt cs p)] = some (Bs ++ [bs d (prt cs p)]) := app_eq (by simp only [List.length_singleton]; omega)
   have c6 : app 17592186044416 Lv (par (prt rs p) (prt cs p) (bs d (prt cs p))) = some (Lv ++ par (prt rs p) (prt cs p) (bs d (prt cs p))) := app_eq (by omega)
   refine Nu.post_box (Nu.post_box (Post.bnd c1 (Post.bnd c3 (Post.brF rfl (Post.bnd c5 (Nu.post_box (Nu.post_box (Post.bnd c2 (Nu.post_box (Nu.post_box (Post.bnd c1 (Post.bnd c4 (Post.bnd c6 (Post.pure ?_))))))))))))))
   dsimp only
   rw [wrap_succ (by omega)]
  ·have ih := of_loop rs cs h1 h2 hn hd z ps hps j (k + 1) b (Lv ++ par (prt rs p) (prt cs p) (bs d (prt cs p))) (Bs ++ [bs d (prt cs p)]) (by omega) (by rw [e2] at hrest; exact hrest) (by rw [List.length_append, hpl]; omega) (by rw [List.length_append, List.length_singleton]; omega)
   rw [ih]
   simp only [lvo, bso, List.map_cons, List.flatten_cons, List.append_assoc, List.singleton_append]
theorem of_F (rs : List Int) (hn : rs.length ≤ 2097152) {d : Int} (hd : 0 ≤ d ∧ d ≤ 2) : ∃ ps, Pa.Paras (fun i => rs.getD i 0) (fun i => (cl4 rs).getD i 0) rs.length 0 ps rs.length ∧ ps.length ≤ rs.length ∧
  levels_Of_F rs d = some ((cl4 rs, lvo rs (cl4 rs) d ps, ps, bso (cl4 rs) d ps), none) := by
 obtain ⟨ps, hps, hp⟩ := Pa.split_F rs (cl4 rs) (by rw [cl4_len]; omega)
 rw [cl4_len, Nat.min_self] at hp
 have hle := hp.len
 refine ⟨ps, hp, by omega, ?_⟩
 unfold levels_Of_F levels_Of_T
 refine Post.run (Post.bnd (bs_F [] (by decide) hd) (Post.brF rfl (Post.bnd (Bd.bidic_of rs (by omega)) (Post.bnd hps (Post.altL (of_loop rs (cl4 rs) rfl (cl4_len rs) hn hd ([], [], [], []) ps (by omega) ps.length 0 0 [] [] (by omega) hp rfl rfl) (Post.pure ?_))))))
 simp
end Go.Proofs.YtenbhmjcoljddaaGreatDoor
namespace Go.Proofs.YtenbhmjcoljddaaGreatDoor
set_option linter.all false
def rsN (classes : List Int) (s : Sq) : List Int := rsB (wk classes s) s
def parN (cs : List Int) (l : Int) : List Int := fin cs (rsN (tab cs.length (Ex.cls cs l))) (sqs cs l) (tab cs.length (Ex.lvs cs l))
theorem fin_congr (cs : List Int) {f g : Sq → List Int} : ∀ (L : List Sq) (lv : List Int), (∀ s ∈ L, f s = g s) → fin cs f L lv = fin cs g L lv
 | [], _, _ => rfl
 | s :: r, lv, h => by
  unfold fin
  rw [h s List.mem_cons_self]
  exact fin_congr cs r _ fun s hs => h s (List.mem_cons_of_mem _ hs)
theorem par_plain (rs cs : List Int) {l : Int} (hl : 0 ≤ l ∧ l ≤ 1) (h : rs.length = cs.length) (hn : cs.length ≤ 2097152) (hb : ∀ x ∈ rs, Nu.brV x = (0, 0)) : par rs cs l = parN cs l := by
 unfold par parN
 refine fin_congr cs _ _ fun s hs => ?_
 obtain ⟨hg, _⟩ := sqs_good hl hn s hs
 unfold rsv rsN
 have : br (rn rs s.1) (rn (tab cs.length (Ex.cls cs l)) s.1) (wk (tab cs.length (Ex.cls cs l)) s) s.2.1 s.2.2.1 = wk (tab cs.length (Ex.cls cs l)) s := by
  have hb2 := brackets_none (rn rs s.1) (rn (tab cs.length (Ex.cls cs l)) s.1) (wk (tab cs.length (Ex.cls cs l)) s) s.2.1 s.2.2.1 (n := s.1.length) (rn_len _ _) (rn_len _ _) (tab_len _ _) hg.few (fun k hk => by
   unfold rn
   rw [tab_getD _ _ hk]
   obtain ⟨q, e, hq⟩ := hg.pl k hk
   rw [e, toNat_nat]
   have hq' : q < rs.length := by omega
   rw [show rs.getD q 0 = rs[q] by simp [List.getD, hq']]
   exact hb _ (List.getElem_mem hq'))
  unfold br
  rw [hb2]
  rfl
 rw [this]
theorem one_par {rs : List Int} (h0 : 0 < rs.length) (hc : ∀ k, k < rs.length → (cl4 rs).getD k 0 ≠ 10) {ps : List P3} (hp : Pa.Paras (fun i => rs.getD i 0) (fun i => (cl4 rs).getD i 0) rs.length 0 ps rs.length) : ps = [(0, (rs.length : Int), 0)] := by
 refine hp.det ⟨h0, .inr ⟨fun k _ hk => hc k hk, rfl⟩, rfl⟩
theorem of_plain (rs : List Int) (h0 : 0 < rs.length) (hn : rs.length ≤ 2097152) {d : Int} (hd : 0 ≤ d ∧ d ≤ 2) (hc : ∀ k, k < rs.length → (cl4 rs).getD k 0 ≠ 10) (hb : ∀ x ∈ rs, Nu.brV x = (0, 0)) :
  levels_Of_F rs d = some ((cl4 rs, parN (cl4 rs) (bs d (cl4 rs)), [(0, (rs.length : Int), 0)], [bs d (cl4 rs)]), none) := by
 obtain ⟨ps, hp, _, h⟩ := of_F rs hn hd
 rw [one_par h0 hc hp] at h
 have e1 : prt rs (0, (rs.length : Int), 0) = rs := by unfold prt; simp
 have e2 : prt (cl4 rs) (0, (rs.length : Int), 0) = cl4 rs := by unfold prt; simp [← cl4_len rs]
 rw [h]
 simp only [lvo, bso, List.map_cons, List.map_nil, List.flatten_cons, List.flatten_nil, List.append_nil, e1, e2]
 rw [par_plain rs (cl4 rs) (bs_two hd _) (cl4_len rs).symm (by rw [cl4_len]; exact hn) hb]
theorem cl_1 : cl4 [97, 1488, 49] = [0, 1, 3] := by kernel_rfl
theorem cl_2 : cl4 [1488, 32, 97] = [1, 12, 0] := by kernel_rfl
theorem of_1 : levels_Of_F [97, 1488, 49] 0 = some (([0, 1, 3], [0, 1, 2], [(0, 3, 0)], [0]), none) := by
 have h := of_plain [97, 1488, 49] (d := 0) (by decide) (by decide) (by decide) (by rw [cl_1]; decide) (by decide +kernel)
 rw [cl_1] at h
 have e1 : bs 0 [0, 1, 3] = 0 := by decide +kernel
 have e2 : parN [0, 1, 3] 0 = [0, 1, 2] := by decide +kernel
 rw [e1, e2] at h
 exact h
theorem of_2 : levels_Of_F [1488, 32, 97] 0 = some (([1, 12, 0], [1, 1, 2], [(0, 3, 0)], [1]), none) := by
 have h := of_plain [1488, 32, 97] (d := 0) (by decide) (by decide) (by decide) (by rw [cl_2]; decide) (by decide +kernel)
 rw [cl_2] at h
 have e1 : bs 0 [1, 12, 0] = 1 := by decide +kernel
 have e2 : parN [1, 12, 0] 1 = [1, 1, 2] := by decide +kernel
 rw [e1, e2] at h
 exact h
theorem awake18 : law18_awake_F = some true := by
 unfold law18_awake_F law18_awake_T
 exact Post.run (Post.bnd of_1 (Post.bnd of_2 ⟨true, by rfl, rfl⟩))
end Go.Proofs.YtenbhmjcoljddaaGreatDoor
