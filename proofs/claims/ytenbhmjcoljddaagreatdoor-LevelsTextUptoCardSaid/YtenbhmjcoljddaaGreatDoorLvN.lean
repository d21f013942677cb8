import Derived.Test.YtenbhmjcoljddaaGreatDoorSh
import Derived.Test.YtenbhmjcoljddaaGreatDoorEvMath
import Derived.Test.YtenbhmjcoljddaaGreatDoorEvTab
namespace Go.Proofs.YtenbhmjcoljddaaGreatDoor.Nu
set_option linter.all false
theorem post_box {α β : Type} {x : β} {k : β → Tr α} {Q : α → Prop} (h : Post (k x) Q) : Post (.bnd (idx [x] 0) k) Q := h
theorem glen : gtab.length = 35 := rfl
@[reducible] def pz : Int × Int := (0, 0)
theorem drop_cons {l : List (Int × Int)} {k : Nat} (h : k < l.length) : l.drop k = l.getD k pz :: l.drop (k + 1) := by
 rw [List.drop_eq_getElem_cons h]
 simp [List.getD, h]
def of1 : List (Int × Int) → Int → Option Int
 | [], _ => none
 | p :: r, x => if p.1 = x then some p.2 else if p.2 = x then some p.1 else of1 r x
def isBr (a : Int) : Bool := !(a == 60 || a == 171 || a == 8249 || a == 8712 || a == 8713 || a == 8804 || a == 8806 || a == 8810 || a == 8834 || a == 8838 || a == 65308)
def kn (a : Int) : Int := if a = 9001 then 12296 else a
def br1 : List (Int × Int) → Int → Option (Int × Int)
 | [], _ => none
 | p :: r, x => if p.1 ≠ x ∧ p.2 ≠ x then br1 r x else if isBr p.1 = false then br1 r x else if p.1 = x then some (1, kn p.1) else some (2, kn p.1)
def rb1 : List (Int × Int) → Int → Option (Int × Int)
 | [], _ => none
 | p :: r, x => if p.1 ≠ x ∧ p.2 ≠ x then rb1 r x else if isBr p.1 = false then some (0, 0) else if p.1 = x then some (1, kn p.1) else some (2, kn p.1)
def ofV (x : Int) : Int × Bool := match of1 gtab x with | some y => (y, true) | none => (x, false)
def miV (x : Int) : Int := match of1 gtab x with | some y => y | none => -1
def brV (x : Int) : Int × Int := match br1 gtab x with | some y => y | none => (0, 0)
def rbV (x : Int) : Int × Int := match rb1 gtab x with | some y => y | none => (0, 0)
def Off (l : List (Int × Int)) (x : Int) : Prop := ∀ p ∈ l, p.1 ≠ x ∧ p.2 ≠ x
theorem off_none {x : Int} : ∀ {l : List (Int × Int)}, Off l x → of1 l x = none ∧ br1 l x = none ∧ rb1 l x = none
 | [], _ => ⟨rfl, rfl, rfl⟩
 | p :: r, h => by
  obtain ⟨h1, h2⟩ := h p (by simp)
  obtain ⟨k1, k2, k3⟩ := off_none (l := r) (x := x) fun q hq => h q (by simp [hq])
  unfold of1 br1 rb1
  rw [if_neg h1, if_neg h2, if_pos ⟨h1, h2⟩, if_pos ⟨h1, h2⟩]
  exact ⟨k1, k2, k3⟩
theorem on_or_off (x : Int) : Off gtab x ∨ ∃ p ∈ gtab, p.1 = x ∨ p.2 = x := by
 by_cases h : ∃ p ∈ gtab, p.1 = x ∨ p.2 = x
 ·exact .inr h
 ·refine .inl fun p hp => ⟨fun e => h ⟨p, hp, .inl e⟩, fun e => h ⟨p, hp, .inr e⟩⟩
theorem ofV_off {x : Int} (h : Off gtab x) : ofV x = (x, false) := by unfold ofV; rw [(off_none h).1]
theorem miV_off {x : Int} (h : Off gtab x) : miV x = -1 := by unfold miV; rw [(off_none h).1]
theorem brV_off {x : Int} (h : Off gtab x) : brV x = (0, 0) := by unfold brV; rw [(off_none h).2.1]
theorem rbV_off {x : Int} (h : Off gtab x) : rbV x = (0, 0) := by unfold rbV; rw [(off_none h).2.2]
theorem bracket_F (p : Int × Int) : mirror_bracket_F p = some (isBr p.1) := by
 unfold mirror_bracket_F mirror_bracket_T isBr
 refine Post.run ?_
 repeat' (first | exact Post.pure (by simp_all) | (refine Post.br (fun hbr => ?_) (fun hbr => ?_)))
theorem known_F (a : Int) : mirror_known_F a = some (kn a) := by
 unfold mirror_known_F mirror_known_T kn
 by_cases h : a = 9001
 ·rw [if_pos h]
  exact Post.run (Post.brT (beq_iff_eq.2 h) (Post.pure rfl))
 ·rw [if_neg h]
  exact Post.run (Post.brF (beq_eq_false_iff_ne.2 h) (Post.pure rfl))
theorem brack_F (x : Int) : mirror_Bracket_F x = some (brV x) := by
 unfold mirror_Bracket_F mirror_Bracket_T
 refine Post.run (Post.alt (R := fun r => match r with | .inl _ => br1 gtab x = none | .inr r => br1 gtab x = some r) (loop_ex (L := fun s : Int × List (Int × Int) × Int => mirror_Bracket_L2 s.1 s.2.1 s.2.2) (fun s => ∃ k : Nat, k ≤ 35 ∧ s = (x, gtab, (k : Int)) ∧ br1 gtab x = br1 (gtab.drop k) x) (fun s => 35 - s.2.2.toNat) ?_ ⟨0, by omega, rfl, rfl⟩) ?_ ?_)
 ·rintro s ⟨k, hk, rfl, h⟩
  dsimp only
  unfold mirror_Bracket_L2
  by_cases e : k < 35
  ·have hg : k < gtab.length := by rw [glen]; exact e
   rw [drop_cons hg] at h
   refine Post.brT (by rw [decide_eq_true_eq]; omega) (Post.idx pz k rfl hg (post_box ?_))
   generalize gtab.getD k pz = p at *
   unfold br1 at h
   by_cases h1 : p.1 = x
   ·rw [if_neg (fun g => g.1 h1)] at h
    refine Post.brF (by simpa using h1) (post_box (Post.bnd (bracket_F p) ?_))
    cases hb : isBr p.1 with
    | false =>
     rw [if_pos hb] at h
     exact Post.brT rfl (Post.pure (by rw [wrap_succ (by omega)]; exact ⟨⟨k + 1, e, rfl, h⟩, by dsimp only; omega⟩))
    | true =>
     rw [if_neg (by rw [hb]; simp), if_pos h1] at h
     exact Post.brF rfl (post_box (Post.brT (beq_iff_eq.2 h1) (post_box (Post.bnd (known_F _) (Post.pure h)))))
   ·refine Post.brT (by simpa using h1) (post_box ?_)
    by_cases h2 : p.2 = x
    ·rw [if_neg (fun g => g.2 h2)] at h
     refine Post.brF (by simpa using h2) (post_box (Post.bnd (bracket_F p) ?_))
     cases hb : isBr p.1 with
     | false =>
      rw [if_pos hb] at h
      exact Post.brT rfl (Post.pure (by rw [wrap_succ (by omega)]; exact ⟨⟨k + 1, e, rfl, h⟩, by dsimp only; omega⟩))
     | true =>
      rw [if_neg (by rw [hb]; simp), if_neg h1] at h
      exact Post.brF rfl (post_box (Post.brF (beq_eq_false_iff_ne.2 h1) (post_box (Post.bnd (known_F _) (Post.pure h)))))
    ·rw [if_pos ⟨h1, h2⟩] at h
     exact Post.brT (by simpa using h2) (Post.pure (by rw [wrap_succ (by omega)]; exact ⟨⟨k + 1, e, rfl, h⟩, by dsimp only; omega⟩))
  ·refine Post.brF (by rw [decide_eq_false_iff_not]; omega) (Post.pure ?_)
   show br1 gtab x = none
   rw [h, List.drop_of_length_le (by rw [glen]; omega)]
   rfl
 ·intro b h
  have h : br1 gtab x = none := h
  exact Post.pure (by unfold brV; rw [h])
 ·intro r h
  have h : br1 gtab x = some r := h
  exact Post.pure (by unfold brV; rw [h])
def dir (c : Int) : Int := if c = 0 then 0 else if c = 1 ∨ c = 2 ∨ c = 3 ∨ c = 6 then 1 else 13
theorem dir_cases (c : Int) : (dir c = 0 ∧ c = 0) ∨ (dir c = 1 ∧ (c = 1 ∨ c = 2 ∨ c = 3 ∨ c = 6)) ∨ (dir c = 13 ∧ c ≠ 0 ∧ c ≠ 1 ∧ c ≠ 2 ∧ c ≠ 3 ∧ c ≠ 6) := by
 unfold dir
 by_cases h : c = 0
 ·rw [if_pos h]; omega
 ·rw [if_neg h]
  by_cases h2 : c = 1 ∨ c = 2 ∨ c = 3 ∨ c = 6
  ·rw [if_pos h2]; omega
  ·rw [if_neg h2]; omega
theorem dir_F (c : Int) : neutral_direction_F c = some (dir c) := by
 unfold neutral_direction_F neutral_direction_T
 have := dir_cases c
 refine Post.run ?_
 repeat' (first | exact Post.pure (by omega) | (refine Post.br (fun hbr => ?_) (fun hbr => ?_) <;> simp only [zA, zB, zC, zD, zE, zF, zG, zH, zI, zJ, zK, zL, zM, zN] at hbr))
def sid (c : Int) : Int := if dir c = 13 then -1 else dir c
def emb (l : Int) : Int := if 0 < l ∧ l % 2 = 1 then 1 else 0
theorem level_F (l : Int) : neutral_Level_F l = some (emb l) := by
 unfold neutral_Level_F neutral_Level_T emb
 by_cases h : 0 < l
 ·rw [Int.tmod_eq_emod_of_nonneg (by omega)]
  by_cases h2 : l % 2 = 1
  ·rw [if_pos ⟨h, h2⟩]
   exact Post.run (Post.brT (decide_eq_true h) (Post.brT (beq_iff_eq.2 h2) (Post.pure rfl)))
  ·rw [if_neg (by omega)]
   exact Post.run (Post.brT (decide_eq_true h) (Post.brF (beq_eq_false_iff_ne.2 h2) (Post.pure rfl)))
 ·rw [if_neg (by omega)]
  exact Post.run (Post.brF (decide_eq_false h) (Post.pure rfl))
def pd (f : Nat → Int) (sos : Int) : Nat → Int
 | 0 => sos
 | k + 1 => if dir (f k) = 13 then pd f sos k else dir (f k)
def nx (f : Nat → Int) (eos : Int) : Nat → Nat → Int
 | 0, _ => eos
 | r + 1, k => if dir (f k) = 13 then nx f eos r (k + 1) else dir (f k)
def rest (f : Nat → Int) (sos eos e : Int) (n k : Nat) : Int := if dir (f k) = 13 then (if pd f sos k = nx f eos (n - k) k then pd f sos k else e) else f k
theorem pd_run {f : Nat → Int} {sos : Int} {m : Nat} : ∀ j, (∀ i, m ≤ i → i < m + j → dir (f i) = 13) → pd f sos (m + j) = pd f sos m
 | 0, _ => rfl
 | j + 1, h => by
  rw [show m + (j + 1) = (m + j) + 1 by omega, show pd f sos (m + j + 1) = if dir (f (m + j)) = 13 then pd f sos (m + j) else dir (f (m + j)) from rfl, if_pos (h (m + j) (by omega) (by omega))]
  exact pd_run j fun i h1 h2 => h i h1 (by omega)
theorem nx_run {f : Nat → Int} {eos : Int} : ∀ j r m, (∀ i, m ≤ i → i < m + j → dir (f i) = 13) → nx f eos (r + j) m = nx f eos r (m + j)
 | 0, r, m, _ => rfl
 | j + 1, r, m, h => by
  rw [show r + (j + 1) = (r + j) + 1 by omega, show nx f eos (r + j + 1) m = if dir (f m) = 13 then nx f eos (r + j) (m + 1) else dir (f m) from rfl, if_pos (h m (by omega) (by omega)), nx_run j r (m + 1) (fun i h1 h2 => h i (by omega) (by omega)), show m + 1 + j = m + (j + 1) by omega]
theorem clone_F (cs : List Int) (hn : cs.length ≤ 4194304) : bidic_Class__F cs = some cs := by
 unfold bidic_Class__F bidic_Class__T
 exact Post.run (Post.bnd (app_eq (by simp; omega)) (Post.pure rfl))
theorem fill_F (xs : List Int) (a b e : Int) (hn : xs.length ≤ 4194304) : neutral_fill_F xs a b e = some (List.replicate xs.length (if a = b then a else e), ()) := by
 have loop : ∀ d, loopW (fun s : List Int × Int × Int × Int => (neutral_fill_L4 s.1 s.2.1 s.2.2.1 s.2.2.2).run) (xs, d, (xs.length : Int), 0) = some (List.replicate xs.length d) := by
  intro d
  refine count (L := fun s : List Int × Int × Int × Int => neutral_fill_L4 s.1 s.2.1 s.2.2.1 s.2.2.2) xs.length (fun k => (tab xs.length (part (fun _ => d) (fun i => xs.getD i 0) k), d, (xs.length : Int), (k : Int))) ?_ (fun k hk => ?_) ?_
  ·rw [part_zero, ← tab_self]; rfl
  ·dsimp only
   unfold neutral_fill_L4
   refine Post.brT (by rw [decide_eq_true_eq]; omega) (ptab k rfl hk (ptab k rfl hk (Post.pure ?_)))
   rw [wrap_succ (by omega), toNat_nat, part_set xs.length (m := fun _ => d) (k := k) rfl]
  ·dsimp only
   unfold neutral_fill_L4
   exact Post.brF (by simp) (Post.pure (by rw [part_end, tab_rep]))
 unfold neutral_fill_F neutral_fill_T
 by_cases h : a = b
 ·rw [if_pos h]
  exact Post.run (Post.brT (beq_iff_eq.2 h) (Post.bnd (loop a) (Post.pure rfl)))
 ·rw [if_neg h]
  exact Post.run (Post.brF (beq_eq_false_iff_ne.2 h) (Post.bnd (loop e) (Post.pure rfl)))
theorem splice_tab {n m t : Nat} {g h : Nat → Int} {d : Int} (hm : m ≤ t) (ht : t ≤ n) (hd : ∀ i, m ≤ i → i < t → h i = d) : splice' (tab n (part h g m)) m (t - m) (List.replicate (t - m) d) = tab n (part h g t) := by
 unfold splice'
 apply List.ext_getElem?
 intro i
 have hl : (List.take m (tab n (part h g m))).length = m := by rw [List.length_take, tab_len]; omega
 have hl2 : (List.take m (tab n (part h g m)) ++ List.replicate (t - m) d).length = t := by rw [List.length_append, hl, List.length_replicate]; omega
 by_cases h1 : i < m
 ·rw [List.getElem?_append_left (by rw [hl2]; omega), List.getElem?_append_left (by rw [hl]; exact h1), List.getElem?_take, if_pos h1, tab_get _ (by omega), tab_get _ (by omega)]
  unfold part
  rw [if_pos h1, if_pos (by omega)]
 ·by_cases h2 : i < t
  ·rw [List.getElem?_append_left (by rw [hl2]; exact h2), List.getElem?_append_right (by rw [hl]; omega), hl, List.getElem?_replicate, if_pos (by omega), tab_get _ (by omega)]
   unfold part
   rw [if_pos h2, hd i (by omega) h2]
  ·rw [List.getElem?_append_right (by rw [hl2]; omega), hl2, List.getElem?_drop, show m + (t - m) + (i - t) = i by omega]
   by_cases h3 : i < n
   ·rw [tab_get _ h3, tab_get _ h3]
    unfold part
    rw [if_neg h1, if_neg h2]
   ·rw [List.getElem?_eq_none (by rw [tab_len]; omega), List.getElem?_eq_none (by rw [tab_len]; omega)]
theorem inner_F (cs : List Int) (hn : cs.length ≤ 4194304) (l eos : Int) (out : List Int) (last : Int) (m : Nat) (hm : m < cs.length) :
  ∃ r, loopW (fun s : List Int × Int × Int × List Int × Int × Int × Int => (neutral_Rest_L6 s.1 s.2.1 s.2.2.1 s.2.2.2.1 s.2.2.2.2.1 s.2.2.2.2.2.1 s.2.2.2.2.2.2).run) (cs, l, eos, out, last, (m : Int), (m : Int)) = some r ∧
   ∃ t : Nat, m ≤ t ∧ t ≤ cs.length ∧ r = (cs, l, eos, out, last, (m : Int), (t : Int)) ∧ (∀ i, m ≤ i → i < t → dir (cs.getD i 0) = 13) ∧ (t < cs.length → dir (cs.getD t 0) ≠ 13) := by
 refine loop_ex (L := fun s : List Int × Int × Int × List Int × Int × Int × Int => neutral_Rest_L6 s.1 s.2.1 s.2.2.1 s.2.2.2.1 s.2.2.2.2.1 s.2.2.2.2.2.1 s.2.2.2.2.2.2) (fun s => ∃ t : Nat, m ≤ t ∧ t ≤ cs.length ∧ s = (cs, l, eos, out, last, (m : Int), (t : Int)) ∧ (∀ i, m ≤ i → i < t → dir (cs.getD i 0) = 13)) (fun s => cs.length - s.2.2.2.2.2.2.toNat) ?_ ⟨m, Nat.le_refl _, by omega, rfl, fun i h1 h2 => by omega⟩
 rintro s ⟨t, h1, h2, rfl, h3⟩
 dsimp only
 unfold neutral_Rest_L6
 by_cases e : t < cs.length
 ·refine Post.brT (by rw [decide_eq_true_eq]; omega) (Post.idx 0 t rfl e (Post.bnd (dir_F _) ?_))
  by_cases e2 : dir (cs.getD t 0) = 13
  ·refine Post.brT (beq_iff_eq.2 e2) (Post.pure ?_)
   rw [wrap_succ (by omega)]
   refine ⟨⟨t + 1, by omega, e, rfl, fun i g1 g2 => ?_⟩, by dsimp only; omega⟩
   rcases Nat.lt_or_ge i t with g | g
   ·exact h3 i g1 g
   ·rw [show i = t by omega]; exact e2
  ·exact Post.brF (beq_eq_false_iff_ne.2 e2) (Post.pure ⟨t, h1, h2, rfl, h3, fun _ => e2⟩)
 ·exact Post.brF (by rw [decide_eq_false_iff_not]; omega) (Post.pure ⟨t, h1, h2, rfl, h3, fun h => absurd h e⟩)
@[reducible] def fn (cs : List Int) (i : Nat) : Int := cs.getD i 0
theorem rest_F (cs : List Int) (l sos eos : Int) (hn : cs.length ≤ 4194304) : neutral_Rest_F cs l sos eos = some (tab cs.length (rest (fn cs) sos eos (emb l) cs.length)) := by
 unfold neutral_Rest_F neutral_Rest_T
 have hself : cs = tab cs.length (fn cs) := tab_self 0 cs
 refine Post.run (Post.bnd (clone_F cs hn) (Post.loop (L := fun s : List Int × Int × Int × List Int × Int × Int => neutral_Rest_L4 s.1 s.2.1 s.2.2.1 s.2.2.2.1 s.2.2.2.2.1 s.2.2.2.2.2)
  (fun s => ∃ (m : Nat) (out : List Int) (last : Int), m ≤ cs.length + 1 ∧ s = (cs, l, eos, out, last, (m : Int)) ∧ out = tab cs.length (part (rest (fn cs) sos eos (emb l) cs.length) (fn cs) m) ∧ (m ≤ cs.length → last = pd (fn cs) sos m)) (fun s => cs.length + 1 - s.2.2.2.2.2.toNat) (R := fun r => r = tab cs.length (rest (fn cs) sos eos (emb l) cs.length))
  ⟨0, cs, sos, by omega, rfl, by rw [part_zero]; exact hself, fun _ => rfl⟩ ?_ (fun r h => Post.pure h)))
 rintro s ⟨m, out, last, hm, rfl, ho, hlast⟩
 dsimp only
 unfold neutral_Rest_L4
 by_cases e : m < cs.length
 ·refine Post.brT (by rw [decide_eq_true_eq]; omega) (Post.call (inner_F cs hn l eos out last m e) ?_)
  rintro _ ⟨t, h1, h2, rfl, h3, h4⟩
  dsimp only
  have hlast := hlast (by omega)
  have hol : out.length = cs.length := by rw [ho, tab_len]
  have hcut := cut_drop (xs := out) (lo := (m : Int)) (hi := (t : Int)) rfl rfl h1 (by omega)
  have hcl : ((out.take t).drop m).length = t - m := by rw [List.length_drop, List.length_take]; omega
  have hdl : ((out.drop m).take (t - m)).length = t - m := by rw [List.length_take, List.length_drop]; omega
  -- what is filled in
  have hd : ∀ next, next = nx (fn cs) eos (cs.length - t) t → ∀ i, m ≤ i → i < t → rest (fn cs) sos eos (emb l) cs.length i = if last = next then last else emb l := by
   intro next hnext i g1 g2
   have q1 : pd (fn cs) sos i = last := by
    have := pd_run (f := fn cs) (sos := sos) (m := m) (i - m) fun j j1 j2 => h3 j j1 (by omega)
    rw [show m + (i - m) = i by omega] at this
    rw [this, hlast]
   have q2 : nx (fn cs) eos (cs.length - i) i = next := by
    have := nx_run (f := fn cs) (eos := eos) (t - i) (cs.length - t) i fun j j1 j2 => h3 j (by omega) (by omega)
    rw [show cs.length - t + (t - i) = cs.length - i by omega, show i + (t - i) = t by omega] at this
    rw [this, hnext]
   unfold rest
   rw [if_pos (h3 i g1 g2), q1, q2]
  by_cases e2 : t < cs.length
  ·have h4 := h4 e2
   have hnx : dir (cs.getD t 0) = nx (fn cs) eos (cs.length - t) t := by
    rw [show cs.length - t = (cs.length - t - 1) + 1 by omega]
    exact (if_neg h4).symm
   refine Post.brT (by rw [decide_eq_true_eq]; omega) (Post.idx 0 t rfl e2 (Post.bnd (dir_F _) (Post.bnd hcut (Post.bnd (level_F l) ?_))))
   rw [toNat_nat, hcl]
   refine Post.bnd (fill_F _ last _ (emb l) (by rw [hdl]; omega)) (Post.pure ?_)
   rw [hdl, ho, splice_tab h1 (by omega) (hd _ hnx), wrap_succ (by omega)]
   refine ⟨⟨t + 1, _, _, by omega, rfl, ?_, fun _ => ?_⟩, by dsimp only; omega⟩
   ·exact part_keep cs.length (if_neg h4)
   ·exact (if_neg h4).symm
  ·have et : t = cs.length := by omega
   subst et
   refine Post.brF (by rw [decide_eq_false_iff_not]; omega) (Post.bnd hcut (Post.bnd (level_F l) ?_))
   rw [toNat_nat, hcl]
   refine Post.bnd (fill_F _ last eos (emb l) (by rw [hdl]; omega)) (Post.pure ?_)
   rw [hdl, ho, splice_tab h1 (Nat.le_refl _) (hd eos (by rw [Nat.sub_self]; rfl)), wrap_succ (by omega)]
   refine ⟨⟨cs.length + 1, _, _, Nat.le_refl _, rfl, ?_, fun h => by omega⟩, by dsimp only; omega⟩
   rw [part_end]
   exact tab_congr fun i hi => (if_pos (by omega)).symm
 ·refine Post.brF (by rw [decide_eq_false_iff_not]; omega) (Post.pure ?_)
  rw [ho]
  exact tab_congr fun i hi => if_pos (by omega)
def Cls (cs : List Int) : Prop := ∀ k, 0 ≤ cs.getD k 0 ∧ cs.getD k 0 ≤ 22
theorem inside_any (cs : List Int) (e : Int) (hn : cs.length ≤ 4194304) : ∃ v, neutral_inside_F cs e = some v := by
 unfold neutral_inside_F neutral_inside_T
 obtain ⟨z, hz, _⟩ := loop_ex (L := fun s : Int × Int × List Int × Int × Int => neutral_inside_L3 s.1 s.2.1 s.2.2.1 s.2.2.2.1 s.2.2.2.2)
  (I := fun s => ∃ (f : Int) (k : Nat), k ≤ cs.length ∧ s = (e, f, cs, (cs.length : Int), (k : Int))) (m := fun s => cs.length - s.2.2.2.2.toNat) (R := fun _ => True) (s0 := (e, 13, cs, (cs.length : Int), 0))
  (by
   rintro s ⟨f, k, hk, rfl⟩
   dsimp only
   unfold neutral_inside_L3
   refine Post.br (fun c => ?_) (fun _ => Post.pure trivial)
   have c := of_decide_eq_true c
   refine Post.idx 0 k rfl (by omega) (Post.bnd (dir_F _) (Post.br (fun _ => Post.pure trivial) (fun _ => Post.br (fun _ => Post.pure ?_) (fun _ => Post.pure ?_))))
   ·rw [wrap_succ (by omega)]; exact ⟨⟨_, k + 1, by omega, rfl⟩, by dsimp only; omega⟩
   ·rw [wrap_succ (by omega)]; exact ⟨⟨_, k + 1, by omega, rfl⟩, by dsimp only; omega⟩)
  ⟨13, 0, by omega, rfl⟩
 cases z with
 | inl z => exact ⟨z, Post.run (Post.altL hz (Post.pure rfl))⟩
 | inr z => exact ⟨z, Post.run (Post.altR hz (Post.pure rfl))⟩
theorem before_any (cs : List Int) (sos : Int) (hn : cs.length ≤ 4194304) : ∃ v, neutral_before_F cs sos = some v := by
 unfold neutral_before_F neutral_before_T
 rw [wrap64 (n := (cs.length : Int) - 1) (by omega) (by omega)]
 obtain ⟨z, hz, _⟩ := loop_ex (L := fun s : List Int × Int × Int => neutral_before_L2 s.1 s.2.1 s.2.2)
  (I := fun s => ∃ k : Nat, k ≤ cs.length ∧ s = (cs, sos, (k : Int) - 1)) (m := fun s => (s.2.2 + 1).toNat) (R := fun _ => True) (s0 := (cs, sos, (cs.length : Int) - 1))
  (by
   rintro s ⟨k, hk, rfl⟩
   dsimp only
   unfold neutral_before_L2
   refine Post.br (fun c => ?_) (fun _ => Post.pure trivial)
   have c := of_decide_eq_true c
   refine Post.idx 0 (k - 1) (by omega) (by omega) (Post.bnd (dir_F _) (Post.br (fun _ => Post.pure trivial) (fun _ => Post.pure ?_)))
   have : IntKind.i64.wrap ((k : Int) - 1 - 1) = ((k - 1 : Nat) : Int) - 1 := by rw [wrap64 (by omega) (by omega)]; omega
   rw [this]
   exact ⟨⟨k - 1, by omega, rfl⟩, by dsimp only; omega⟩)
  ⟨cs.length, Nat.le_refl _, rfl⟩
 cases z with
 | inl z => exact ⟨z, Post.run (Post.altL hz (Post.pure rfl))⟩
 | inr z => exact ⟨z, Post.run (Post.altR hz (Post.pure rfl))⟩
theorem turn_any (cs first : List Int) {p : Nat} (d : Int) (hp : p < cs.length) (hf : first.length = cs.length) (hn : cs.length ≤ 4194304) : ∃ r, neutral_turn_F cs first (p : Int) d = some (r, ()) ∧ r.length = cs.length := by
 unfold neutral_turn_F neutral_turn_T
 rw [wrap_succ (by omega)]
 obtain ⟨z, hz, h⟩ := loop_ex (L := fun s : List Int × List Int × Int × Int => neutral_turn_L2 s.1 s.2.1 s.2.2.1 s.2.2.2)
  (I := fun s => ∃ (xs : List Int) (k : Nat), k ≤ cs.length ∧ xs.length = cs.length ∧ s = (xs, first, d, (k : Int))) (m := fun s => cs.length - s.2.2.2.toNat) (R := fun z => z.length = cs.length) (s0 := (cs.set (Int.toNat (p : Int)) d, first, d, ((p + 1 : Nat) : Int)))
  (by
   rintro s ⟨xs, k, hk, hx, rfl⟩
   dsimp only
   unfold neutral_turn_L2
   refine Post.br (fun c => ?_) (fun _ => Post.pure hx)
   have c := of_decide_eq_true c
   refine Post.idx 0 k rfl (by omega) (Post.br (fun _ => Post.idx 0 k rfl (by omega) (Post.idx 0 k rfl (by omega) (Post.pure ?_))) (fun _ => Post.pure hx))
   rw [wrap_succ (by omega)]
   exact ⟨⟨_, k + 1, by omega, by rw [List.length_set]; exact hx, rfl⟩, by dsimp only; omega⟩)
  ⟨_, p + 1, by omega, by rw [List.length_set], rfl⟩
 exact ⟨z, Post.run (Post.idx 0 p rfl hp (Post.idx 0 p rfl hp (Post.bnd hz (Post.pure rfl)))), h⟩
theorem find_any (st : List (Int × Int)) (kn : Int) (hn : st.length ≤ 4194304) : ∃ v, pairs_find_F st kn = some v ∧ (v < 0 ∨ ∃ k : Nat, v = (k : Int) ∧ k < st.length) := by
 unfold pairs_find_F pairs_find_T
 rw [wrap64 (n := (st.length : Int) - 1) (by omega) (by omega)]
 obtain ⟨z, hz, h⟩ := loop_ex (L := fun s : List (Int × Int) × Int × Int => pairs_find_L2 s.1 s.2.1 s.2.2)
  (I := fun s => ∃ k : Nat, k ≤ st.length ∧ s = (st, kn, (k : Int) - 1)) (m := fun s => (s.2.2 + 1).toNat) (R := fun z => z = .inl () ∨ ∃ k : Nat, z = .inr (k : Int) ∧ k < st.length) (s0 := (st, kn, (st.length : Int) - 1))
  (by
   rintro s ⟨k, hk, rfl⟩
   dsimp only
   unfold pairs_find_L2
   refine Post.br (fun c => ?_) (fun _ => Post.pure (.inl rfl))
   have c := of_decide_eq_true c
   have hk1 : (k : Int) - 1 = ((k - 1 : Nat) : Int) := by omega
   rw [hk1]
   refine Post.bnd (idx_get (k := k - 1) rfl (by omega)) (Post.br (fun _ => Post.pure (.inr ⟨k - 1, rfl, by omega⟩)) (fun _ => Post.pure ?_))
   have : IntKind.i64.wrap (((k - 1 : Nat) : Int) - 1) = ((k - 1 : Nat) : Int) - 1 := by rw [wrap64 (by omega) (by omega)]
   rw [this]
   exact ⟨⟨k - 1, by omega, rfl⟩, by dsimp only; omega⟩)
  ⟨st.length, Nat.le_refl _, rfl⟩
 rcases h with rfl | ⟨k, rfl, hk⟩
 ·exact ⟨-1, Post.run (Post.altL hz (Post.pure rfl)), .inl (by omega)⟩
 ·exact ⟨(k : Int), Post.run (Post.altR hz (Post.pure rfl)), .inr ⟨k, rfl, hk⟩⟩
def Cl (n : Nat) (c : List Int) : Prop := c.length = n ∧ ∀ i, i < n → c.getD i 0 = 0 ∨ ((i : Int) < c.getD i 0 ∧ c.getD i 0 < n)
theorem closings_any (rs cs : List Int) {n : Nat} (h1 : rs.length = n) (h2 : cs.length = n) (hn : n ≤ 4194304) : ∃ c, pairs_closings_F rs cs = some c ∧ Cl n c := by
 unfold pairs_closings_F pairs_closings_T
 rw [h1, h2, if_neg (by omega)]
 obtain ⟨z, hz, h⟩ := loop_ex (L := fun s : List Int × List Int × List Int × (List (Int × Int)) × Int × Int => pairs_closings_L5 s.1 s.2.1 s.2.2.1 s.2.2.2.1 s.2.2.2.2.1 s.2.2.2.2.2)
  (I := fun s => ∃ (c : List Int) (st : List (Int × Int)) (t : Nat), t ≤ n ∧ Cl n c ∧ st.length ≤ t ∧ (∀ q ∈ st, 0 ≤ q.1 ∧ q.1 < t) ∧ s = (rs, cs, c, st, (n : Int), (t : Int))) (m := fun s => n - s.2.2.2.2.2.toNat) (R := fun z => (∃ c, z = .inl c ∧ Cl n c) ∨ ∃ c, z = .inr c ∧ Cl n c) (s0 := (rs, cs, List.replicate n 0, [], (n : Int), 0))
  (by
   rintro s ⟨c, st, t, ht, hc, hl, hq, rfl⟩
   dsimp only
   unfold pairs_closings_L5
   refine Post.br (fun c1 => ?_) (fun _ => Post.pure (.inl ⟨c, rfl, hc⟩))
   have c1 := of_decide_eq_true c1
   have next : ∀ {c' : List Int} {st' : List (Int × Int)}, Cl n c' → st'.length ≤ t + 1 → (∀ q ∈ st', 0 ≤ q.1 ∧ q.1 < ((t + 1 : Nat) : Int)) →
     (∃ (c : List Int) (st : List (Int × Int)) (t' : Nat), t' ≤ n ∧ Cl n c ∧ st.length ≤ t' ∧ (∀ q ∈ st, 0 ≤ q.1 ∧ q.1 < (t' : Int)) ∧ (rs, cs, c', st', (n : Int), ((t + 1 : Nat) : Int)) = (rs, cs, c, st, (n : Int), (t' : Int))) ∧ n - ((t + 1 : Nat) : Int).toNat < n - (t : Int).toNat := fun a b d =>
    ⟨⟨_, _, t + 1, by omega, a, b, d, rfl⟩, by omega⟩
   have hq' : ∀ q ∈ st, 0 ≤ q.1 ∧ q.1 < ((t + 1 : Nat) : Int) := fun q h => by have := hq q h; omega
   rw [wrap_succ (k := t) (by omega)]
   refine Post.idx 0 t rfl (by omega) (Post.br (fun _ => Post.pure (next hc (by omega) hq')) (fun _ => Post.idx 0 t rfl (by omega) (Post.bnd (brack_F _) (Post.br (fun _ => Post.br (fun _ => Post.pure (.inr ⟨c, rfl, hc⟩)) (fun _ => ?_)) (fun _ => Post.br (fun _ => ?_) (fun _ => Post.pure (next hc (by omega) hq')))))))
   ·refine Post.bnd (app_eq (by simp only [List.length_singleton]; omega)) (Post.pure (next hc (by rw [List.length_append, List.length_singleton]; omega) fun q h => ?_))
    rcases List.mem_append.1 h with h | h
    ·exact hq' q h
    ·rw [List.mem_singleton.1 h]; dsimp only; omega
   ·obtain ⟨v, hv, hv2⟩ := find_any st (brV (rs.getD t 0)).2 (by omega)
    refine Post.bnd hv (Post.br (fun c2 => ?_) (fun _ => Post.pure (next hc (by omega) hq')))
    have c2 := of_decide_eq_true c2
    rcases hv2 with hv2 | ⟨k, rfl, hk⟩
    ·omega
    ·have hm := hq st[k] (List.getElem_mem hk)
     refine Post.bnd (idx_get (k := k) rfl hk) (Post.idx 0 st[k].1.toNat (by omega) (by rw [hc.1]; omega) (Post.bnd (cut_take (n := k) rfl (by omega)) (Post.pure (next ⟨by rw [List.length_set]; exact hc.1, fun i hi => ?_⟩ (by rw [List.length_take]; omega) fun q h => hq' q (List.mem_of_mem_take h)))))
     simp only [List.getD, List.getElem?_set]
     by_cases e : st[k].1.toNat = i
     ·rw [if_pos e, if_pos (by rw [hc.1]; omega)]
      right
      simp only [Option.getD_some]
      omega
     ·rw [if_neg e]; exact hc.2 i hi)
  ⟨List.replicate n 0, [], 0, by omega, ⟨List.length_replicate .., fun i hi => .inl (by simp [List.getD, hi])⟩, Nat.le_refl _, (fun q h => by cases h), rfl⟩
 rcases h with ⟨c, rfl, hc⟩ | ⟨c, rfl, hc⟩
 ·exact ⟨c, Post.run (Post.bnd (mk_eq (k := n) rfl (by omega)) (Post.altL hz (Post.pure rfl))), hc⟩
 ·exact ⟨c, Post.run (Post.bnd (mk_eq (k := n) rfl (by omega)) (Post.altR hz (Post.pure rfl))), hc⟩
def Prs (n : Nat) (ps : List (Int × Int)) : Prop := ∀ q ∈ ps, 0 ≤ q.1 ∧ q.1 < q.2 ∧ q.2 < n
theorem pairs_any (rs cs : List Int) {n : Nat} (h1 : rs.length = n) (h2 : cs.length = n) (hn : n ≤ 4194304) : ∃ ps, pairs_Of_F rs cs = some ps ∧ Prs n ps ∧ ps.length ≤ n := by
 obtain ⟨c, hc, hl, hcl⟩ := closings_any rs cs h1 h2 hn
 unfold pairs_Of_F pairs_Of_T
 obtain ⟨z, hz, h⟩ := loop_ex (L := fun s : List (Int × Int) × List Int × Int × Int => pairs_Of_L4 s.1 s.2.1 s.2.2.1 s.2.2.2)
  (I := fun s => ∃ (ps : List (Int × Int)) (t : Nat), t ≤ n ∧ Prs n ps ∧ ps.length ≤ t ∧ s = (ps, c, (n : Int), (t : Int))) (m := fun s => n - s.2.2.2.toNat) (R := fun z => Prs n z ∧ z.length ≤ n) (s0 := ([], c, (n : Int), 0))
  (by
   rintro s ⟨ps, t, ht, hp, hpl, rfl⟩
   dsimp only
   unfold pairs_Of_L4
   refine Post.br (fun c1 => ?_) (fun _ => Post.pure ⟨hp, by omega⟩)
   have c1 := of_decide_eq_true c1
   rw [wrap_succ (k := t) (by omega)]
   have h0 := hcl t (by omega)
   refine Post.idx 0 t rfl (by omega) (Post.br (fun c2 => Post.bnd (app_eq (by simp only [List.length_singleton]; omega)) (Post.pure ⟨⟨_, t + 1, by omega, fun q h => ?_, by rw [List.length_append, List.length_singleton]; omega, rfl⟩, by dsimp only; omega⟩)) (fun _ => Post.pure ⟨⟨ps, t + 1, by omega, hp, by omega, rfl⟩, by dsimp only; omega⟩))
   have c2 := of_decide_eq_true c2
   rcases List.mem_append.1 h with h | h
   ·exact hp q h
   ·rw [List.mem_singleton.1 h]
    dsimp only
    omega)
  ⟨[], 0, by omega, (fun q h => by cases h), Nat.le_refl _, rfl⟩
 refine ⟨z, Post.run (Post.bnd hc ?_), h⟩
 rw [hl]
 exact Post.bnd hz (Post.pure rfl)
theorem step_any (first : List Int) (sos e : Int) {n : Nat} (hf : first.length = n) (hn : n ≤ 4194304) {ps : List (Int × Int)} (hp : Prs n ps) {k : Nat} (hk : k < ps.length) (hkn : ps.length ≤ n) (out : List Int) (ho : out.length = n) :
  ∃ out', out'.length = n ∧ ∀ l, emb l = e → Post (neutral_Brackets_L5 first l sos out ps (ps.length : Int) (k : Int)) (· = .next (first, l, sos, out', ps, (ps.length : Int), ((k + 1 : Nat) : Int))) := by
 have hq := hp ps[k] (List.getElem_mem hk)
 have hcut : cut out (IntKind.i64.wrap (ps[k].1 + 1)) ps[k].2 = some ((out.take ps[k].2.toNat).drop (ps[k].1.toNat + 1)) := cut_drop (by rw [wrap64 (by omega) (by omega)]; omega) (by omega) (by omega) (by omega)
 obtain ⟨v, hv⟩ := inside_any ((out.take ps[k].2.toNat).drop (ps[k].1.toNat + 1)) e (by rw [List.length_drop, List.length_take]; omega)
 have hx : idx ps (k : Int) = some ps[k] := idx_get rfl hk
 have e1 : ps[k].1 = ((ps[k].1.toNat : Nat) : Int) := by omega
 have e2 : ps[k].2 = ((ps[k].2.toNat : Nat) : Int) := by omega
 have turns : ∀ d, ∃ a b : List Int, b.length = n ∧ neutral_turn_F out first ps[k].1 d = some (a, ()) ∧ neutral_turn_F a first ps[k].2 d = some (b, ()) := fun d => by
  obtain ⟨a, ha, hal⟩ := turn_any out first (p := ps[k].1.toNat) d (by omega) (by omega) (by omega)
  obtain ⟨b, hb, hbl⟩ := turn_any a first (p := ps[k].2.toNat) d (by omega) (by omega) (by omega)
  rw [← e1] at ha
  rw [← e2] at hb
  exact ⟨a, b, by omega, ha, hb⟩
 have hw : IntKind.i64.wrap ((k : Int) + 1) = ((k + 1 : Nat) : Int) := wrap_succ (by omega)
 by_cases c1 : v = 13
 ·refine ⟨out, ho, fun l hl => ?_⟩
  unfold neutral_Brackets_L5
  rw [hw]
  refine Post.brT (decide_eq_true (by omega)) (Post.bnd hx (post_box (post_box (Post.bnd hcut (Post.bnd (level_F l) ?_)))))
  rw [hl]
  exact Post.bnd hv (Post.brT (by simpa using c1) (Post.pure rfl))
 ·by_cases c2 : v = e
  ·obtain ⟨a, b, hb, ta, tb⟩ := turns v
   refine ⟨b, hb, fun l hl => ?_⟩
   unfold neutral_Brackets_L5
   rw [hw]
   refine Post.brT (decide_eq_true (by omega)) (Post.bnd hx (post_box (post_box (Post.bnd hcut (Post.bnd (level_F l) ?_)))))
   rw [hl]
   refine Post.bnd hv (Post.brF (by simpa using c1) (Post.bnd (level_F l) ?_))
   rw [hl]
   exact Post.brF (by simpa using c2) (post_box (Post.bnd ta (post_box (Post.bnd tb (Post.pure rfl)))))
  ·have hcut2 : cut out 0 ps[k].1 = some (out.take ps[k].1.toNat) := cut_take (by omega) (by omega)
   obtain ⟨u, hu⟩ := before_any (out.take ps[k].1.toNat) sos (by rw [List.length_take]; omega)
   obtain ⟨a, b, hb, ta, tb⟩ := turns u
   refine ⟨b, hb, fun l hl => ?_⟩
   unfold neutral_Brackets_L5
   rw [hw]
   refine Post.brT (decide_eq_true (by omega)) (Post.bnd hx (post_box (post_box (Post.bnd hcut (Post.bnd (level_F l) ?_)))))
   rw [hl]
   refine Post.bnd hv (Post.brF (by simpa using c1) (Post.bnd (level_F l) ?_))
   rw [hl]
   exact Post.brT (by simpa using c2) (post_box (Post.bnd hcut2 (Post.bnd hu (post_box (Post.bnd ta (post_box (Post.bnd tb (Post.pure rfl))))))))
theorem loop_any (first : List Int) (sos e : Int) {n : Nat} (hf : first.length = n) (hn : n ≤ 4194304) {ps : List (Int × Int)} (hp : Prs n ps) (hkn : ps.length ≤ n) : ∀ (d k : Nat) (out : List Int), ps.length = k + d → out.length = n →
  ∃ r, r.length = n ∧ ∀ l, emb l = e → loopW (fun s : List Int × Int × Int × List Int × (List (Int × Int)) × Int × Int => (neutral_Brackets_L5 s.1 s.2.1 s.2.2.1 s.2.2.2.1 s.2.2.2.2.1 s.2.2.2.2.2.1 s.2.2.2.2.2.2).run) (first, l, sos, out, ps, (ps.length : Int), (k : Int)) = some r
 | 0, k, out, h, ho => ⟨out, ho, fun l _ => loopW_done (Post.run (by
   dsimp only
   unfold neutral_Brackets_L5
   exact Post.brF (decide_eq_false (by omega)) (Post.pure rfl)))⟩
 | d + 1, k, out, h, ho => by
  obtain ⟨out', ho', hs⟩ := step_any first sos e hf hn hp (k := k) (by omega) hkn out ho
  obtain ⟨r, hr, hl⟩ := loop_any first sos e hf hn hp hkn d (k + 1) out' (by omega) ho'
  exact ⟨r, hr, fun l he => loopW_next (Post.run (hs l he)) (hl l he)⟩
theorem brackets_any (rs first cs : List Int) (sos e : Int) {n : Nat} (h1 : rs.length = n) (h2 : first.length = n) (h3 : cs.length = n) (hn : n ≤ 4194304) : ∃ r, r.length = n ∧ ∀ l, emb l = e → neutral_Brackets_F rs first cs l sos = some r := by
 obtain ⟨ps, hps, hp, hpl⟩ := pairs_any rs cs h1 h3 hn
 obtain ⟨r, hr, hl⟩ := loop_any first sos e h2 hn hp hpl ps.length 0 cs (by omega) h3
 refine ⟨r, hr, fun l he => ?_⟩
 unfold neutral_Brackets_F neutral_Brackets_T
 exact Post.run (Post.bnd (clone_F cs (by omega)) (Post.brF (by rw [h1, h3]; simp) (Post.brF (by rw [h2, h3]; simp) (Post.bnd hps (Post.bnd (hl l he) (Post.pure rfl))))))
end Go.Proofs.YtenbhmjcoljddaaGreatDoor.Nu
