/-
  The laws of relevel return true.
-/
import Derived.Test.YtfojigpbnepdhaaSh
import Derived.Test.YtfojigpbnepdhaaEvMath
namespace Go.Proofs.Ytfojigpbnepdhaa

/-! ### lists by numbers -/
def lev (n : Int) : Int := if n % 8 = 7 then -1 else (n / 8) % 6
theorem levels_F (ns : List Int) (hn : ns.length ≤ 2097152) (h8 : ∀ n ∈ ns, 0 ≤ n ∧ n ≤ 255) : law12_Levels_F ns = some (tab ns.length fun i => lev (ns.getD i 0)) := by
  unfold law12_Levels_F law12_Levels_T
  refine Post.run ?_
  refine Post.bnd (count (L := fun s : List Int × List Int × Int => law12_Levels_L3 s.1 s.2.1 s.2.2) ns.length (fun k => (ns, tab k (fun i => lev (ns.getD i 0)), (k : Int))) rfl (fun k hk => ?_) ?_) (Post.pure rfl)
  · have hm : 0 ≤ ns.getD k 0 ∧ ns.getD k 0 ≤ 255 := by
      refine h8 _ ?_
      simp [List.getD, hk]
    have hadd : IntKind.i64.wrap ((k : Int) + 1) = ((k + 1 : Nat) : Int) := by rw [wrap64 (by omega) (by omega)]; omega
    dsimp only
    unfold law12_Levels_L3
    refine Post.brT (by simpa using hk) (Post.idx 0 k rfl hk (Post.br (fun h => ?_) (fun h => ?_)))
    · rw [hadd]
      refine Post.bnd (app_eq (by rw [tab_len]; simp; omega)) (Post.pure ?_)
      have h : (ns.getD k 0).tmod 8 = 7 := by simpa using h
      rw [Int.tmod_eq_emod_of_nonneg hm.1] at h
      rw [← tab_succ, lev, if_pos h]
    · rw [hadd]
      have h : ¬ (ns.getD k 0).tmod 8 = 7 := by simpa using h
      rw [Int.tmod_eq_emod_of_nonneg hm.1] at h
      refine Post.idx 0 k rfl hk ?_
      refine Post.bnd (app_eq (by rw [tab_len]; simp; omega)) (Post.pure ?_)
      rw [Int.tdiv_eq_ediv_of_nonneg hm.1, wrapU8 (by omega) (by omega), wrap64 (by omega) (by omega), Int.tmod_eq_emod_of_nonneg (by omega)]
      rw [← tab_succ, lev, if_neg h]
  · dsimp only
    unfold law12_Levels_L3
    exact Post.brF (by simp) (Post.pure rfl)

theorem classes_F (ns : List Int) (hn : ns.length ≤ 2097152) (h8 : ∀ n ∈ ns, 0 ≤ n ∧ n ≤ 255) : law08_Classes_F ns = some (tab ns.length fun i => (ns.getD i 0) % 23) := by
  unfold law08_Classes_F law08_Classes_T
  refine Post.run ?_
  refine Post.bnd (count (L := fun s : List Int × List Int × Int => law08_Classes_L3 s.1 s.2.1 s.2.2) ns.length (fun k => (ns, tab k (fun i => (ns.getD i 0) % 23), (k : Int))) rfl (fun k hk => ?_) ?_) (Post.pure rfl)
  · have hm : 0 ≤ ns.getD k 0 ∧ ns.getD k 0 ≤ 255 := by
      refine h8 _ ?_
      simp [List.getD, hk]
    have hadd : IntKind.i64.wrap ((k : Int) + 1) = ((k + 1 : Nat) : Int) := by rw [wrap64 (by omega) (by omega)]; omega
    dsimp only
    unfold law08_Classes_L3
    refine Post.brT (by simpa using hk) (Post.idx 0 k rfl hk ?_)
    rw [hadd]
    refine Post.bnd (app_eq (by rw [tab_len]; simp; omega)) (Post.pure ?_)
    rw [Int.tmod_eq_emod_of_nonneg hm.1, ← tab_succ]
  · dsimp only
    unfold law08_Classes_L3
    exact Post.brF (by simp) (Post.pure rfl)

theorem bases_F (ns : List Int) (hn : ns.length ≤ 2097152) (h8 : ∀ n ∈ ns, 0 ≤ n ∧ n ≤ 255) : law24_Bases_F ns = some (tab ns.length fun i => (ns.getD i 0) % 2) := by
  unfold law24_Bases_F law24_Bases_T
  refine Post.run ?_
  refine Post.bnd (count (L := fun s : List Int × List Int × Int × Int => law24_Bases_L3 s.1 s.2.1 s.2.2.1 s.2.2.2) ns.length (fun k => (tab k (fun i => (ns.getD i 0) % 2), ns, (ns.length : Int), (k : Int))) rfl (fun k hk => ?_) ?_) (Post.pure rfl)
  · have hm : 0 ≤ ns.getD k 0 ∧ ns.getD k 0 ≤ 255 := by
      refine h8 _ ?_
      simp [List.getD, hk]
    have hadd : IntKind.i64.wrap ((k : Int) + 1) = ((k + 1 : Nat) : Int) := by rw [wrap64 (by omega) (by omega)]; omega
    dsimp only
    unfold law24_Bases_L3
    refine Post.brT (by simpa using hk) (Post.idx 0 k rfl hk ?_)
    rw [hadd, Int.tmod_eq_emod_of_nonneg hm.1, wrap64 (by omega) (by omega)]
    refine Post.bnd (app_eq (by rw [tab_len]; simp; omega)) (Post.pure ?_)
    rw [← tab_succ]
  · dsimp only
    unfold law24_Bases_L3
    exact Post.brF (by simp) (Post.pure rfl)

/-! ### what is brought back -/
def blk (c : Int) : Bool := c == 12 || c == 22 || c == 19 || c == 20 || c == 21 || c == 14 || c == 15 || c == 16 || c == 17 || c == 18 || c == 9

theorem iso_F (c : Int) : bidic_Isolate_F c = some (c == 19 || c == 20 || c == 21) := by
  unfold bidic_Isolate_F bidic_Isolate_T
  simp only [Tr.run_br, Tr.run_pure]
  by_cases h1 : c = 19 <;> by_cases h2 : c = 20 <;> simp_all
theorem emb_F (c : Int) : bidic_Embedding_F c = some (c == 14 || c == 16 || c == 15 || c == 17) := by
  unfold bidic_Embedding_F bidic_Embedding_T
  simp only [Tr.run_br, Tr.run_pure]
  by_cases h1 : c = 14 <;> by_cases h2 : c = 15 <;> by_cases h3 : c = 16 <;> by_cases h4 : c = 17 <;> simp_all
theorem taken_F (c : Int) : bidic_Taken_F c = some (c == 14 || c == 15 || c == 16 || c == 17 || c == 18 || c == 9) := by
  unfold bidic_Taken_F bidic_Taken_T
  rw [Tr.run_bnd_some (emb_F c)]
  simp only [Tr.run_br, Tr.run_pure]
  by_cases h1 : c = 14 <;> by_cases h2 : c = 15 <;> by_cases h3 : c = 16 <;> by_cases h4 : c = 17 <;> by_cases h5 : c = 18 <;> simp_all
theorem blank_F (c : Int) : relevel_blank_F c = some (blk c) := by
  unfold relevel_blank_F relevel_blank_T
  simp only [Tr.run_br, Tr.run_pure, iso_F, taken_F, Tr.run_bnd']
  unfold blk
  repeat' split
  all_goals (congr 1; rw [Bool.eq_iff_iff]; simp_all; try omega)
theorem lblank_F (c : Int) : law24_blank_F c = some (blk c) := by
  unfold law24_blank_F law24_blank_T blk
  simp only [Tr.run_br, Tr.run_pure]
  repeat' split
  all_goals simp_all

def backL : List Int → Bool
  | [] => true
  | x :: r => if x = 11 ∨ x = 10 then true else if blk x then backL r else false
theorem drop_cons {l : List Int} {k : Nat} (h : k < l.length) : l.drop k = l.getD k 0 :: l.drop (k + 1) := by
  rw [List.drop_eq_getElem_cons h]
  simp [List.getD, h]

def relev (l c b : List Int) : List Int := tab l.length fun k => if l.getD k 0 ≠ -1 ∧ backL (c.drop k) = true then b.getD k 0 else l.getD k 0

theorem of_F (l c b : List Int) (hc : c.length = l.length) (hb : b.length = l.length) (hn : l.length ≤ 17592186044416) : relevel_Of_F l c b = some (relev l c b) := by
  unfold relevel_Of_F relevel_Of_T
  have hclone : slices_Clone___int_int__F l = some l := by
    unfold slices_Clone___int_int__F slices_Clone___int_int__T
    rw [Tr.run_bnd_some (app_eq (by simpa using hn))]; rfl
  refine Post.run ?_
  refine Post.bnd hclone (Post.brF (by simp [hc]) (Post.brF (by simp [hb]) (Post.bnd (count (L := fun s : List Int × List Int × List Int × Bool × Int => relevel_Of_L6 s.1 s.2.1 s.2.2.1 s.2.2.2.1 s.2.2.2.2) l.length
    (fun k => (c, b, tab l.length (fun p => if l.length - k ≤ p then (if l.getD p 0 ≠ -1 ∧ backL (c.drop p) = true then b.getD p 0 else l.getD p 0) else l.getD p 0), backL (c.drop (l.length - k)), ((l.length - 1 : Int) - k)))
    (r := relev l c b) ?_ (fun k hk => ?_) ?_) (Post.pure rfl))))
  · have e1 : l = tab l.length (fun p => if l.length - 0 ≤ p then (if l.getD p 0 ≠ -1 ∧ backL (c.drop p) = true then b.getD p 0 else l.getD p 0) else l.getD p 0) :=
      tab_ext 0 rfl fun k hk => by rw [if_neg (by omega)]
    have e2 : backL (c.drop (l.length - 0)) = true := by rw [List.drop_eq_nil_of_le (by omega)]; rfl
    rw [wrap64 (by omega) (by omega), e2, ← e1]
    simp
  · dsimp only
    generalize hi : l.length - (k + 1) = i
    have hi' : l.length - k = i + 1 := by omega
    have hil : i < l.length := by omega
    have hcast : ((l.length : Int) - 1 - (k : Int)) = (i : Int) := by omega
    have hcast' : ((l.length : Int) - 1 - ((k + 1 : Nat) : Int)) = IntKind.i64.wrap ((i : Int) - 1) := by rw [wrap64 (by omega) (by omega)]; omega
    rw [hcast, hi', hcast']
    have hd : backL (c.drop i) = (if c.getD i 0 = 11 ∨ c.getD i 0 = 10 then true else if blk (c.getD i 0) then backL (c.drop (i + 1)) else false) := by rw [drop_cons (by omega)]; rfl
    -- the row behind this round
    have key : ∀ t : Bool, t = backL (c.drop i) → ∀ row : List Int, row = (if t = true ∧ l.getD i 0 ≠ -1 then (tab l.length (fun p => if i + 1 ≤ p then (if l.getD p 0 ≠ -1 ∧ backL (c.drop p) = true then b.getD p 0 else l.getD p 0) else l.getD p 0)).set i (b.getD i 0) else tab l.length (fun p => if i + 1 ≤ p then (if l.getD p 0 ≠ -1 ∧ backL (c.drop p) = true then b.getD p 0 else l.getD p 0) else l.getD p 0)) →
        row = tab l.length (fun p => if i ≤ p then (if l.getD p 0 ≠ -1 ∧ backL (c.drop p) = true then b.getD p 0 else l.getD p 0) else l.getD p 0) := by
      intro t ht row hr
      rw [hr]
      split
      · rename_i h1
        rw [tab_set]
        refine tab_congr fun p hp => ?_
        by_cases e : p = i
        · subst e; rw [if_pos rfl, if_pos (Nat.le_refl _), if_pos ⟨h1.2, by rw [← ht]; exact h1.1⟩]
        · rw [if_neg e]
          by_cases h2 : i + 1 ≤ p
          · rw [if_pos (c := i + 1 ≤ p) h2, if_pos (c := i ≤ p) (by omega)]
          · rw [if_neg (c := i + 1 ≤ p) h2, if_neg (c := i ≤ p) (by omega)]
      · rename_i h1
        refine tab_congr fun p hp => ?_
        by_cases e : p = i
        · subst e
          rw [if_neg (by omega), if_pos (Nat.le_refl _), if_neg (fun h2 => h1 ⟨by rw [ht]; exact h2.2, h2.1⟩)]
        · by_cases h2 : i + 1 ≤ p
          · rw [if_pos (c := i + 1 ≤ p) h2, if_pos (c := i ≤ p) (by omega)]
          · rw [if_neg (c := i + 1 ≤ p) h2, if_neg (c := i ≤ p) (by omega)]
    have hrow : ∀ {q : Nat → Int}, (tab l.length q).getD i 0 = q i := fun {q} => tab_getD q 0 hil
    unfold relevel_Of_L6
    refine Post.brT (by simp) (Post.idx 0 i rfl (by omega) (Post.br (fun h1 => ?_) (fun h1 => ?_)))
    · have h1 : c.getD i 0 = 11 := by simpa using h1
      have ht : true = backL (c.drop i) := by rw [hd, if_pos (.inl h1)]
      refine Post.idx 0 i rfl (by rw [tab_len]; omega) (Post.br (fun h2 => ?_) (fun h2 => ?_))
      · refine Post.idx 0 i rfl (by omega) (Post.idx 0 i rfl (by rw [tab_len]; omega) (Post.pure ?_))
        rw [hrow, if_neg (by omega)] at h2
        rw [← ht, ← key true ht _ rfl, if_pos ⟨rfl, by simpa using h2⟩]; rfl
      · refine Post.pure ?_
        rw [hrow, if_neg (by omega)] at h2
        rw [← ht, ← key true ht _ rfl, if_neg (fun h => by simp at h2; exact h.2 h2)]
    · have h1 : ¬ c.getD i 0 = 11 := by simpa using h1
      refine Post.idx 0 i rfl (by omega) (Post.br (fun h3 => ?_) (fun h3 => ?_))
      · have h3 : c.getD i 0 = 10 := by simpa using h3
        have ht : true = backL (c.drop i) := by rw [hd, if_pos (.inr h3)]
        refine Post.idx 0 i rfl (by rw [tab_len]; omega) (Post.br (fun h2 => ?_) (fun h2 => ?_))
        · refine Post.idx 0 i rfl (by omega) (Post.idx 0 i rfl (by rw [tab_len]; omega) (Post.pure ?_))
          rw [hrow, if_neg (by omega)] at h2
          rw [← ht, ← key true ht _ rfl, if_pos ⟨rfl, by simpa using h2⟩]; rfl
        · refine Post.pure ?_
          rw [hrow, if_neg (by omega)] at h2
          rw [← ht, ← key true ht _ rfl, if_neg (fun h => by simp at h2; exact h.2 h2)]
      · have h3 : ¬ c.getD i 0 = 10 := by simpa using h3
        rw [if_neg (fun h => h.elim h1 h3)] at hd
        refine Post.br (fun h4 => ?_) (fun h4 => ?_)
        · refine Post.idx 0 i rfl (by omega) (Post.bnd (blank_F _) (Post.br (fun h5 => ?_) (fun h5 => ?_)))
          · have ht : true = backL (c.drop i) := by rw [hd, if_pos h5, h4]
            rw [h5]
            refine Post.idx 0 i rfl (by rw [tab_len]; omega) (Post.br (fun h2 => ?_) (fun h2 => ?_))
            · refine Post.idx 0 i rfl (by omega) (Post.idx 0 i rfl (by rw [tab_len]; omega) (Post.pure ?_))
              rw [hrow, if_neg (by omega)] at h2
              rw [← ht, ← key true ht _ rfl, if_pos ⟨rfl, by simpa using h2⟩]; rfl
            · refine Post.pure ?_
              rw [hrow, if_neg (by omega)] at h2
              rw [← ht, ← key true ht _ rfl, if_neg (fun h => by simp at h2; exact h.2 h2)]
          · have ht : false = backL (c.drop i) := by rw [hd, if_neg (by rw [h5]; simp)]
            refine Post.pure ?_
            rw [h5, ← ht, ← key false ht _ rfl, if_neg (fun h => by simp at h)]
        · have ht : false = backL (c.drop i) := by rw [hd, h4]; simp
          refine Post.pure ?_
          rw [← ht, ← key false ht _ rfl, if_neg (fun h => by simp at h)]
  · dsimp only
    unfold relevel_Of_L6
    refine Post.brF (by simp; omega) (Post.pure ?_)
    congr 1
    exact tab_congr fun p hp => by rw [if_pos (by omega)]

theorem of_short (l c b : List Int) (h : c.length ≠ l.length ∨ b.length ≠ l.length) (hn : l.length ≤ 17592186044416) : relevel_Of_F l c b = some l := by
  unfold relevel_Of_F relevel_Of_T
  have hclone : slices_Clone___int_int__F l = some l := by
    unfold slices_Clone___int_int__F slices_Clone___int_int__T
    rw [Tr.run_bnd_some (app_eq (by simpa using hn))]; rfl
  refine Post.run ?_
  refine Post.bnd hclone (Post.br (fun _ => Post.pure rfl) (fun h1 => Post.brT ?_ (Post.pure rfl)))
  have h1 : c.length = l.length := by simp at h1; omega
  simp; omega

theorem awake_F : law24_awake_F = some true := by
  unfold law24_awake_F law24_awake_T
  have e : relev [1, 1, 1, 1] [1, 12, 11, 12] [0, 0, 0, 0] = [1, 0, 0, 0] := by decide
  have h : relevel_Of_F [1, 1, 1, 1] [1, 12, 11, 12] [0, 0, 0, 0] = some [1, 0, 0, 0] := by rw [of_F [1, 1, 1, 1] [1, 12, 11, 12] [0, 0, 0, 0] rfl rfl (by simp), e]
  exact Post.run (Post.bnd h (Post.brT rfl (Post.idx 0 0 rfl (by simp) (Post.brT rfl (Post.idx 0 1 rfl (by simp) (Post.brT rfl (Post.idx 0 2 rfl (by simp) (Post.brT rfl (Post.idx 0 3 rfl (by simp) (Post.pure rfl))))))))))

end Go.Proofs.Ytfojigpbnepdhaa
