/-
  TrieWide and TrieGets hold.
-/
import Derived.Test.YtemapfidlomkhaaDoorTrE
namespace Go.Proofs.YtemapfidlomkhaaDoor
set_option linter.all false

theorem trieWide_F (a b r : Int) (ha : 0 ≤ a ∧ a ≤ 255) (hb : 0 ≤ b ∧ b ≤ 255) (hr : -2147483648 ≤ r ∧ r ≤ 2147483647) : law03_TrieWide_F a b r = some true := by
  have ho : OkR (-1) [((0 : Int), (1114111 : Int), a)] := by simp [OkR]
  have h1 := build_F (rs := [(0, 1114111, a)]) (other := b) (by simp) ho (by simpa using ha) hb
  have h2 := build_F (rs := []) (other := b) (by simp) (by simp [OkR]) (by simp) hb
  have const : ∀ (rs : List Rg) (c : Int), (∀ i : Nat, i < 1114112 → ofv rs b i = c) → (pgs (al rs b) 8704).length = 1 := by
    intro rs c hc
    have hp : ∀ k, k < 8704 → pg (al rs b) k = tab 128 fun _ => c := fun k hk => by rw [pg_al rs b hk]; exact tab_congr fun i hi => hc _ (by omega)
    have : ∀ n, 1 ≤ n → n ≤ 8704 → pgs (al rs b) n = [tab 128 fun _ => c] := by
      intro n
      induction n with
      | zero => intro h _; omega
      | succ n ih =>
        intro _ h8
        rw [pgs_succ, hp n (by omega)]
        by_cases e : n = 0
        · subst e; simp [pgs]
        · rw [ih (by omega) (by omega), if_pos (by simp)]
    rw [this 8704 (by omega) (by omega)]
    rfl
  have c1 : ∀ i : Int, 0 ≤ i → i ≤ 1114111 → ofv [((0 : Int), (1114111 : Int), a)] b i = a := fun i h0 h9 => if_pos ⟨h0, h9⟩
  have p1 := const [(0, 1114111, a)] a fun i hi => c1 i (by omega) (by omega)
  have p2 := const [] b fun i hi => rfl
  have g1 := get_F [(0, 1114111, a)] b r hr.1 hr.2
  have g2 := get_F [] b r hr.1 hr.2
  refine Post.run (Post.bnd awake_F (Post.brF rfl (Post.bnd h1 (Post.bnd h2 (Post.brF rfl (Post.brF rfl (Post.bnd (pages_F _ _) (Post.brF (by rw [p1]; rfl) (Post.bnd (pages_F _ _) (Post.brF (by rw [p2]; rfl) ?_)))))))))) 
  refine Post.br (fun h => ?_) fun h => ?_
  · have h := of_decide_eq_true h
    rw [if_neg (by omega)] at g1 g2
    exact Post.bnd g1 (Post.brT rfl (Post.bnd g2 (Post.pure rfl)))
  · have h := of_decide_eq_false h
    refine Post.br (fun h' => ?_) fun h' => ?_
    · have h' := of_decide_eq_true h'
      rw [if_neg (by omega)] at g1 g2
      exact Post.bnd g1 (Post.brT rfl (Post.bnd g2 (Post.pure rfl)))
    · have h' := of_decide_eq_false h'
      rw [if_pos (by omega)] at g1 g2
      rw [c1 r (by omega) (by omega)] at g1
      exact Post.bnd g1 (Post.brT (by simp) (Post.bnd g2 (Post.pure (by simp [ofv]))))
theorem trieWide_all (x : Tys.I [.int .u8, .int .u8, .int .i32]) (h : WfAll [.int .u8, .int .u8, .int .i32] x) : law03_TrieWide_F x.1 x.2.1 x.2.2.1 = some true := trieWide_F _ _ _ (wf_u8 h.1) (wf_u8 h.2.1) (wf_i32 h.2.2.1)

/-! ### of -/
def both {α : Type} (v : α) : Sum α α → Prop
  | .inl b => b = v
  | .inr b => b = v
theorem of_loop {rs : List Rg} (other r : Int) (hl : rs.length ≤ 9223372036854775807) (h32 : B32 rs) : ∀ (l pre : List Rg), rs = pre ++ l →
    ∃ x, loopW (fun s : List Rg × Int × Int × Int => (law03_of_L2 s.1 s.2.1 s.2.2.1 s.2.2.2).run) (rs, other, r, (pre.length : Int)) = some x ∧ both (ofv l other r) x
  | [], pre, h => ⟨.inl other, loopW_done (Post.run (Post.brF (by simp [h]) (Post.pure rfl))), rfl⟩
  | x :: l, pre, h => by
    have hlt : pre.length < rs.length := by rw [h]; simp
    have hx := idx_mid h rfl
    have hb : decide ((pre.length : Int) < (rs.length : Int)) = true := decide_eq_true (by omega)
    obtain ⟨b1, b2, _⟩ := h32 x (by rw [h]; simp)
    have w1 : IntKind.i64.wrap x.1 = x.1 := wrap64 (by omega) (by omega)
    have w2 : IntKind.i64.wrap x.2.1 = x.2.1 := wrap64 (by omega) (by omega)
    obtain ⟨y, ih, hy⟩ := of_loop other r hl h32 l (pre ++ [x]) (by rw [h]; simp)
    rw [show ((pre ++ [x]).length : Int) = (pre.length : Int) + 1 by simp] at ih
    have hw : IntKind.i64.wrap ((pre.length : Int) + 1) = (pre.length : Int) + 1 := wrap64 (by omega) (by omega)
    unfold ofv
    by_cases h1 : x.1 ≤ r
    · by_cases h2 : r ≤ x.2.1
      · rw [if_pos ⟨h1, h2⟩]
        exact ⟨.inr x.2.2, loopW_done (Post.run (Post.brT hb (Post.bnd hx (Post.brT (decide_eq_true (by rw [w1]; exact h1)) (Post.bnd hx (Post.brT (decide_eq_true (by rw [w2]; exact h2)) (Post.bnd hx (Post.pure rfl)))))))), rfl⟩
      · rw [if_neg (by omega)]
        refine ⟨y, loopW_next (Post.run (Post.brT hb (Post.bnd hx (Post.brT (decide_eq_true (by rw [w1]; exact h1)) (Post.bnd hx (Post.brF (decide_eq_false (by rw [w2]; exact h2)) (Post.pure ?_))))))) ih, hy⟩
        dsimp only
        rw [hw]
    · rw [if_neg (by omega)]
      refine ⟨y, loopW_next (Post.run (Post.brT hb (Post.bnd hx (Post.brF (decide_eq_false (by rw [w1]; exact h1)) (Post.pure ?_))))) ih, hy⟩
      dsimp only
      rw [hw]
theorem of_F {rs : List Rg} (other r : Int) (hl : rs.length ≤ 9223372036854775807) (h32 : B32 rs) : law03_of_F rs other r = some (ofv rs other r) := by
  obtain ⟨x, h1, h2⟩ := of_loop other r hl h32 rs [] rfl
  exact Post.run (Post.alt ⟨x, h1, h2⟩ (fun b hb => Post.pure hb) fun c hc => Post.pure hc)

/-! ### Make -/
def mkr : Int → List Rg → List Rg
  | _, [] => []
  | a, x :: l => (a + (x.1.natAbs : Int) % 3000, a + (x.1.natAbs : Int) % 3000 + (x.2.1.natAbs : Int) % 1000, x.2.2) :: mkr (a + (x.1.natAbs : Int) % 3000 + (x.2.1.natAbs : Int) % 1000 + 1) l
theorem mkr_ok : ∀ {l : List Rg} {a : Int}, 0 ≤ a → a + 4000 * (l.length : Int) ≤ 60000 → OkR (a - 1) (mkr a l)
  | [], _, _, _ => trivial
  | x :: l, a, h0, h => by
    simp only [List.length_cons] at h
    unfold mkr OkR
    dsimp only
    refine ⟨by omega, ?_⟩
    have := mkr_ok (l := l) (a := a + (x.1.natAbs : Int) % 3000 + (x.2.1.natAbs : Int) % 1000 + 1) (by omega) (by omega)
    rwa [show ∀ n : Int, n + 1 - 1 = n from fun n => by omega] at this
theorem mkr_mem : ∀ {l : List Rg} {a : Int} {y : Rg}, y ∈ mkr a l → y.2.1 ≤ a + 4000 * (l.length : Int) ∧ ∃ x ∈ l, y.2.2 = x.2.2
  | [], _, _, h => by simp [mkr] at h
  | x :: l, a, y, h => by
    unfold mkr at h
    simp only [List.length_cons]
    rcases List.mem_cons.1 h with rfl | h
    · exact ⟨by dsimp only; omega, x, by simp, rfl⟩
    · obtain ⟨h1, z, h2, h3⟩ := mkr_mem h
      exact ⟨by omega, z, by simp [h2], h3⟩
theorem mkr_len : ∀ {l : List Rg} {a : Int}, (mkr a l).length = l.length
  | [], _ => rfl
  | x :: l, a => by unfold mkr; simp [mkr_len (l := l)]
theorem abs_F {n : Int} (h1 : -2147483648 ≤ n) (h2 : n ≤ 2147483647) : law03_abs_F (IntKind.i64.wrap n) = some (n.natAbs : Int) := by
  rw [wrap64 (by omega) (by omega)]
  refine Post.run (t := law03_abs_T n) (Post.br (fun h => Post.pure ?_) fun h => Post.pure ?_)
  · have h := of_decide_eq_true h
    rw [wrap64 (by omega) (by omega)]; omega
  · have h := of_decide_eq_false h
    omega
theorem tmod_nat (n : Nat) (m : Nat) : (n : Int).tmod (m : Int) = (n : Int) % (m : Int) := Int.tmod_eq_emod_of_nonneg (by omega)
theorem make_loop {raw : List Rg} (h32 : B32 raw) : ∀ (l pre out : List Rg) (a : Int), raw = pre ++ l → pre.length ≤ 12 → out.length ≤ pre.length → 0 ≤ a → a ≤ 4000 * (pre.length : Int) →
    loopW (fun s : List Rg × List Rg × Int × Int => (law03_Make_L4 s.1 s.2.1 s.2.2.1 s.2.2.2).run) (raw, out, a, (pre.length : Int)) = some (out ++ mkr a (l.take (12 - pre.length)))
  | [], pre, out, a, h, _, _, _, _ => loopW_done (Post.run (Post.brF (by simp [h]) (Post.pure (by simp [mkr]))))
  | x :: l, pre, out, a, h, hp, hol, h0, ha => by
    have hlt : pre.length < raw.length := by rw [h]; simp
    have hx := idx_mid h rfl
    have hb : decide ((pre.length : Int) < (raw.length : Int)) = true := decide_eq_true (by omega)
    obtain ⟨b1, b2, _⟩ := h32 x (by rw [h]; simp)
    by_cases e : pre.length < 12
    · rw [show 12 - pre.length = (12 - (pre.length + 1)) + 1 by omega, List.take_succ_cons]
      have m1 : ((x.1.natAbs : Nat) : Int).tmod 3000 = (x.1.natAbs : Int) % 3000 := tmod_nat _ 3000
      have m2 : ((x.2.1.natAbs : Nat) : Int).tmod 1000 = (x.2.1.natAbs : Int) % 1000 := tmod_nat _ 1000
      have ih := make_loop h32 l (pre ++ [x]) (out ++ [(a + (x.1.natAbs : Int) % 3000, a + (x.1.natAbs : Int) % 3000 + (x.2.1.natAbs : Int) % 1000, x.2.2)]) (a + (x.1.natAbs : Int) % 3000 + (x.2.1.natAbs : Int) % 1000 + 1) (by rw [h]; simp) (by simp; omega) (by simp; omega) (by omega) (by simp only [List.length_append, List.length_cons, List.length_nil]; omega)
      rw [show ((pre ++ [x]).length : Int) = (pre.length : Int) + 1 by simp, show (pre ++ [x]).length = pre.length + 1 by simp, List.append_assoc] at ih
      refine loopW_next (Post.run (Post.brT hb (Post.brT (decide_eq_true (by dsimp only; omega)) (Post.bnd hx (Post.bnd (abs_F (by omega) (by omega)) (Post.bnd hx (Post.bnd (abs_F (by omega) (by omega)) (Post.bnd hx (Post.bnd (app_eq (by simp; omega)) (Post.pure ?_)))))))))) ih
      rw [m1, m2, wrap64 (n := a + (x.1.natAbs : Int) % 3000) (by omega) (by omega), wrap64 (n := a + (x.1.natAbs : Int) % 3000 + (x.2.1.natAbs : Int) % 1000) (by omega) (by omega), wrap64 (n := a + (x.1.natAbs : Int) % 3000 + (x.2.1.natAbs : Int) % 1000 + 1) (by omega) (by omega), wrap64 (n := (pre.length : Int) + 1) (by omega) (by omega), wrapI32 (n := a + (x.1.natAbs : Int) % 3000) (by omega) (by omega), wrapI32 (by omega) (by omega)]
    · rw [show 12 - pre.length = 0 by omega]
      exact loopW_done (Post.run (Post.brT hb (Post.brF (decide_eq_false (by dsimp only; omega)) (Post.pure (by simp [mkr])))))
def made (raw : List Rg) : List Rg := mkr 0 (raw.take 12)
theorem make_F {raw : List Rg} (h32 : B32 raw) : law03_Make_F raw = some (made raw) := by
  have h := make_loop h32 raw [] [] 0 rfl (by simp) (by simp) (by omega) (by simp)
  exact Post.run (Post.bnd h (Post.pure (by simp [made])))
theorem made_len (raw : List Rg) : (made raw).length ≤ 12 := by unfold made; rw [mkr_len]; simp; omega
theorem made_ok (raw : List Rg) : OkR (-1) (made raw) := mkr_ok (a := 0) (by omega) (by simp; omega)
theorem made_mem {raw : List Rg} {y : Rg} (h : y ∈ made raw) : y.2.1 ≤ 48000 ∧ ∃ x ∈ raw, y.2.2 = x.2.2 := by
  obtain ⟨h1, x, h2, h3⟩ := mkr_mem h
  refine ⟨?_, x, List.mem_of_mem_take h2, h3⟩
  have : (raw.take 12).length ≤ 12 := by simp; omega
  omega
theorem made_val {raw : List Rg} (h32 : B32 raw) : ∀ y ∈ made raw, 0 ≤ y.2.2 ∧ y.2.2 ≤ 255 := fun y hy => by
  obtain ⟨_, x, h2, h3⟩ := made_mem hy
  rw [h3]
  exact (h32 x h2).2.2
theorem made_32 {raw : List Rg} (h32 : B32 raw) : B32 (made raw) := (made_ok raw).b32 (made_val h32)

theorem ofv_at : ∀ {pre suf : List Rg} {last d r : Int} {x : Rg}, OkR last (pre ++ x :: suf) → x.1 ≤ r → r ≤ x.2.1 → ofv (pre ++ x :: suf) d r = x.2.2
  | [], suf, last, d, r, x, h, h1, h2 => if_pos ⟨h1, h2⟩
  | y :: pre, suf, last, d, r, x, h, h1, h2 => by
    rw [List.cons_append] at h ⊢
    have h' := h.2
    unfold ofv
    have key : ∀ {pre : List Rg} {last : Int}, OkR last (pre ++ x :: suf) → last < x.1 := by
      intro pre
      induction pre with
      | nil => intro last h; exact h.1.2.2.2
      | cons z pre ih =>
        intro last h
        have h3 := ih h.2
        have h4 := h.1
        omega
    have := key h'
    rw [if_neg (by omega)]
    exact ofv_at h' h1 h2
theorem okR_at : ∀ {pre suf : List Rg} {last : Int} {x : Rg}, OkR last (pre ++ x :: suf) → 0 ≤ x.1 ∧ x.2.1 ≤ 1114111 ∧ x.1 ≤ x.2.1
  | [], _, _, _, h => ⟨h.1.1, h.1.2.1, h.1.2.2.1⟩
  | _ :: _, _, _, _, h => okR_at h.2

theorem trieGets_F (raw : List Rg) (other : Int) (rs : List Int) (h32 : B32 raw) (ho : 0 ≤ other ∧ other ≤ 255) (hrl : rs.length ≤ 9223372036854775807) (hrs : ∀ n ∈ rs, -2147483648 ≤ n ∧ n ≤ 2147483647) : law03_TrieGets_F raw other rs = some true := by
  have hb := build_F (rs := made raw) (other := other) (by have := made_len raw; omega) (made_ok raw) (made_val h32) ho
  have hml := made_len raw
  have hof := fun r => of_F (rs := made raw) other r (by omega) (made_32 h32)
  have hg := fun r h1 h2 => get_F (made raw) other r h1 h2
  refine Post.run (Post.bnd awake_F (Post.brF rfl (Post.bnd (make_F h32) (Post.bnd hb (Post.brF rfl ?_)))))
  have l8 : loopW (fun s : Int × List Int × List Rg × (List Int × List Int) × Int => (law03_TrieGets_L8 s.1 s.2.1 s.2.2.1 s.2.2.2.1 s.2.2.2.2).run) (other, rs, made raw, tr (made raw) other, 0) = some (.inl (other, made raw, tr (made raw) other)) := by
    refine count rs.length (fun k => (other, rs, made raw, tr (made raw) other, (k : Int))) rfl (fun k hk => ?_) ?_
    · have hx : idx rs (k : Int) = some rs[k] := idx_get rfl hk
      obtain ⟨b1, b2⟩ := hrs rs[k] (List.getElem_mem hk)
      have hw : IntKind.i64.wrap rs[k] = rs[k] := wrap64 (by omega) (by omega)
      refine Post.brT (decide_eq_true (by dsimp only; omega)) (Post.bnd hx (Post.bnd (hof _) (Post.bnd hx (Post.br (fun h => ?_) fun h => ?_))))
      · have h := of_decide_eq_true h
        have g := hg rs[k] b1 b2
        rw [if_neg (by omega)] at g
        refine Post.bnd hx (Post.bnd g (Post.brF rfl (Post.pure ?_)))
        dsimp only
        rw [wrapS (by omega)]
      · have h := of_decide_eq_false h
        refine Post.bnd hx (Post.br (fun h' => ?_) fun h' => ?_)
        · have h' := of_decide_eq_true h'
          have g := hg rs[k] b1 b2
          rw [if_neg (by omega)] at g
          refine Post.bnd hx (Post.bnd g (Post.brF rfl (Post.pure ?_)))
          dsimp only
          rw [wrapS (by omega)]
        · have h' := of_decide_eq_false h'
          have g := hg rs[k] b1 b2
          rw [if_pos (by omega)] at g
          refine Post.bnd hx (Post.bnd g (Post.brF (by rw [hw]; simp) (Post.pure ?_)))
          dsimp only
          rw [wrapS (by omega)]
    · exact Post.brF (by simp) (Post.pure rfl)
  refine Post.altL l8 ?_
  have l16 : loopW (fun s : Int × List Rg × (List Int × List Int) × Int => (law03_TrieGets_L16 s.1 s.2.1 s.2.2.1 s.2.2.2).run) (other, made raw, tr (made raw) other, 0) = some (.inl ()) := by
    refine count (made raw).length (fun k => (other, made raw, tr (made raw) other, (k : Int))) rfl (fun k hk => ?_) ?_
    · have hx : idx (made raw) (k : Int) = some (made raw)[k] := idx_get rfl hk
      have hsp : made raw = (made raw).take k ++ (made raw)[k] :: (made raw).drop (k + 1) := by rw [List.getElem_cons_drop, List.take_append_drop]
      generalize (made raw)[k] = x at hx hsp
      have hok := made_ok raw
      rw [hsp] at hok
      obtain ⟨o1, o2, o3⟩ := okR_at hok
      have v1 : ofv (made raw) other x.1 = x.2.2 := by rw [hsp]; exact ofv_at hok (by omega) o3
      have v2 : ofv (made raw) other x.2.1 = x.2.2 := by rw [hsp]; exact ofv_at hok o3 (by omega)
      have hx48 : x.2.1 ≤ 48000 := (made_mem (y := x) (by rw [hsp]; simp)).1
      have g1 := hg x.1 (by omega) (by omega)
      have g2 := hg x.2.1 (by omega) (by omega)
      have g3 := hg (x.2.1 + 1) (by omega) (by omega)
      rw [if_pos (by omega), v1] at g1
      rw [if_pos (by omega), v2] at g2
      rw [if_pos (by omega)] at g3
      have e1 : IntKind.i32.wrap (x.2.1 + 1) = x.2.1 + 1 := wrapI32 (by omega) (by omega)
      have e2 : IntKind.i64.wrap (IntKind.i64.wrap x.2.1 + 1) = x.2.1 + 1 := by rw [wrap64 (n := x.2.1) (by omega) (by omega), wrap64 (by omega) (by omega)]
      refine Post.brT (decide_eq_true (by dsimp only; omega)) (Post.bnd hx (Post.bnd hx (Post.bnd g1 (Post.brF (by simp) (Post.bnd hx (Post.bnd hx (Post.bnd g2 (Post.brF (by simp) (Post.bnd hx (Post.bnd hx (Post.bnd (by rw [e1]; exact g3) (Post.bnd (by rw [e2]; exact hof _) (Post.brF (by simp) (Post.pure ?_))))))))))))))
      dsimp only
      rw [wrapS (by omega)]
    · exact Post.brF (by simp) (Post.pure rfl)
  exact Post.altL l16 (Post.pure rfl)

theorem wf_rows {rs : List Rg} (h : Wf (.sl (.st (.pair (.int .i32) (.pair (.int .i32) (.int .u8))))) rs) : rs.length ≤ 9223372036854775807 ∧ B32 rs := by
  obtain ⟨h1, h2⟩ := h
  refine ⟨by unfold maxLen at h1; exact h1, fun x hx => ?_⟩
  have := h2 x hx
  simp only [Wf] at this
  exact ⟨wf_i32 this.1, wf_i32 this.2.1, wf_u8 this.2.2⟩
theorem trieGets_all (x : Tys.I [.sl (.st (.pair (.int .i32) (.pair (.int .i32) (.int .u8)))), .int .u8, .sl (.int .i32)]) (h : WfAll [.sl (.st (.pair (.int .i32) (.pair (.int .i32) (.int .u8)))), .int .u8, .sl (.int .i32)] x) : law03_TrieGets_F x.1 x.2.1 x.2.2.1 = some true :=
  trieGets_F _ _ _ (wf_rows h.1).2 (wf_u8 h.2.1) (by have := h.2.2.1.1; unfold maxLen at this; exact this) (fun n hn => wf_i32 (h.2.2.1.2 n hn))
end Go.Proofs.YtemapfidlomkhaaDoor
