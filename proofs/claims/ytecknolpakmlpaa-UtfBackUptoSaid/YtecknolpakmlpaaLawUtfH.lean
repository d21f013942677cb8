/-
  The laws of utf: how many bytes a scalar has; texts joined.
-/
import Derived.Test.YtecknolpakmlpaaLawUtfG
namespace Go.Proofs.Ytecknolpakmlpaa
set_option linter.all false

/-! ### UtfSizes -/
def siz (r : Int) : Nat := (enc0 r).length
theorem siz_at (r : Int) : siz r = if r < 128 then 1 else if r < 2048 then 2 else if r < 65536 then 3 else 4 := by
  unfold siz enc0
  split
  · rfl
  · split
    · rfl
    · split <;> rfl
theorem enc_tail {r : Int} (h : 0 ≤ r ∧ r < 55296 ∨ 57343 < r ∧ r ≤ 1114111) {k : Nat} (h0 : 0 < k) (hk : k < (enc0 r).length) : 128 ≤ (enc0 r).getD k 256 ∧ (enc0 r).getD k 256 < 192 := by
  unfold enc0 at *
  split at hk
  · simp at hk; omega
  · rename_i h1
    rw [if_neg h1]
    split at hk
    · rename_i h2
      rw [if_pos h2]
      have : k = 1 := by simp at hk; omega
      subst this
      show 128 ≤ 128 + r % 64 ∧ 128 + r % 64 < 192
      omega
    · rename_i h2
      rw [if_neg h2]
      split at hk
      · rename_i h3
        rw [if_pos h3]
        have : k = 1 ∨ k = 2 := by simp at hk; omega
        rcases this with rfl | rfl
        · show 128 ≤ 128 + r / 64 % 64 ∧ 128 + r / 64 % 64 < 192
          omega
        · show 128 ≤ 128 + r % 64 ∧ 128 + r % 64 < 192
          omega
      · rename_i h3
        rw [if_neg h3]
        have : k = 1 ∨ k = 2 ∨ k = 3 := by simp at hk; omega
        rcases this with rfl | rfl | rfl
        · show 128 ≤ 128 + r / 4096 % 64 ∧ 128 + r / 4096 % 64 < 192
          omega
        · show 128 ≤ 128 + r / 64 % 64 ∧ 128 + r / 64 % 64 < 192
          omega
        · show 128 ≤ 128 + r % 64 ∧ 128 + r % 64 < 192
          omega
theorem sizes_tail {r n : Int} (hs : scl r = true) (hn : n = (siz r : Int)) : Post (.alt (loopW (fun s => (law01_UtfSizes_L14 s.1 s.2.1 s.2.2.1 s.2.2.2).run) (r, enc r, n, 1)) (fun l_8 =>
    .bnd (utf_Next_F l_8.2.1 0) fun c_9 =>
    .br ((l_8.2.1.length : Int) == l_8.2.2) (
      .br (c_9.1 == l_8.1) (
        .pure (c_9.2 == l_8.2.2)) (
        .pure false)) (
      .pure false)) (fun l_10 => .pure l_10)) (· = true) := by
  have h : 0 ≤ r ∧ r < 55296 ∨ 57343 < r ∧ r ≤ 1114111 := of_decide_eq_true hs
  have e : enc r = enc0 r := by unfold enc fixr; rw [if_pos hs]
  have hl := enc_len r
  have hb := enc_bytes r
  subst hn
  have hlen : (enc r).length = siz r := by rw [e]; rfl
  have hd := decAt_enc [] [] r
  rw [List.nil_append, List.append_nil, List.length_nil] at hd
  have hf : fixr r = r := by unfold fixr; rw [if_pos hs]
  have h0 := next_F hb (by omega) (p := 0) (by omega)
  have hsz : sz (enc r) 0 = siz r := by unfold sz; rw [hd]; show (enc r).length = _; exact hlen
  rw [hd, hsz, hf] at h0
  have h0 : utf_Next_F (enc r) 0 = some (r, (siz r : Int)) := h0
  refine Post.altL (count (L := fun s : Int × List Int × Int × Int => law01_UtfSizes_L14 s.1 s.2.1 s.2.2.1 s.2.2.2) ((enc r).length - 1) (fun k => (r, enc r, (siz r : Int), ((k + 1 : Nat) : Int))) (r := Sum.inl (r, enc r, (siz r : Int))) rfl (fun k hk => ?_) ?_) ?_
  · dsimp only
    unfold law01_UtfSizes_L14
    have hk1 : k + 1 < (enc r).length := by omega
    have ht := enc_tail h (k := k + 1) (by omega) (by rw [← e]; exact hk1)
    rw [← e] at ht
    have hg : gg (enc r) (k + 1) 0 = (enc r).getD (k + 1) 256 := rfl
    have hdk : decAt (enc r) (k + 1) = (65533, 1, false) := by
      unfold decAt dec
      rw [hg]
      have : lead ((enc r).getD (k + 1) 256) = (0, 0, 0) := by unfold lead; rw [if_neg (by omega), if_pos (by omega)]
      rw [this]
      rfl
    have hn := next_F hb (by omega) hk1
    have hsk : sz (enc r) (k + 1) = 1 := by unfold sz; rw [hdk]; rfl
    rw [hdk, hsk] at hn
    refine Post.brT (decide_eq_true (by omega)) (Post.bnd hn (Post.brF rfl (Post.brF rfl (Post.pure ?_))))
    rw [wrap_succ (k := k + 1) (by omega)]
  · dsimp only
    unfold law01_UtfSizes_L14
    exact Post.brF (decide_eq_false (by omega)) (Post.pure rfl)
  · dsimp only
    refine Post.bnd h0 (Post.brT ?_ (Post.brT (by simp) (Post.pure (by simp))))
    rw [hlen]
    simp
theorem utfSizes_F (r : Int) : law01_UtfSizes_F r = some true := by
  unfold law01_UtfSizes_F law01_UtfSizes_T
  refine Post.run (Post.bnd awake01 (Post.brF rfl (Post.bnd (scl_F r) (Post.br (fun c => ?_) (fun c => ?_)))))
  · have e1 : enc r = enc 65533 := by
      unfold enc
      have : fixr r = 65533 := by unfold fixr; rw [if_neg (by simpa using c)]
      rw [this]; rfl
    refine Post.bnd (put_F r) (Post.bnd (put_F 65533) ?_)
    rw [e1]
    exact Post.bnd (sameb_F _) (Post.pure rfl)
  · have hs : scl r = true := by simpa using c
    have hz := siz_at r
    have e2 : IntKind.i64.wrap (1 + 1) = 2 := rfl
    have e3 : IntKind.i64.wrap (2 + 1) = 3 := rfl
    have e4 : IntKind.i64.wrap (3 + 1) = 4 := rfl
    rw [e2, e3, e4]
    refine Post.bnd (put_F r) (Post.br (fun c1 => Post.br (fun c2 => Post.br (fun c3 => sizes_tail hs ?_) (fun c3 => sizes_tail hs ?_)) (fun c2 => Post.br (fun c3 => sizes_tail hs ?_) (fun c3 => sizes_tail hs ?_))) (fun c1 => Post.br (fun c2 => Post.br (fun c3 => sizes_tail hs ?_) (fun c3 => sizes_tail hs ?_)) (fun c2 => Post.br (fun c3 => sizes_tail hs ?_) (fun c3 => sizes_tail hs ?_))))
    all_goals
      simp only [decide_eq_true_eq, decide_eq_false_iff_not] at c1 c2 c3
      rw [hz]
    · rw [if_neg (by omega), if_neg (by omega), if_neg (by omega)]; rfl
    · rw [if_neg (by omega), if_neg (by omega), if_pos (by omega)]; rfl
    · omega
    · rw [if_neg (by omega), if_pos (by omega)]; rfl
    · omega
    · omega
    · omega
    · rw [if_pos (by omega)]; rfl
theorem utfSizes_all (x : Tys.I [.int .i32]) (_ : WfAll [.int .i32] x) : law01_UtfSizes_F x.1 = some true := utfSizes_F _

/-! ### UtfJoin -/
theorem getD_left {xs ys : List Int} {k : Nat} (h : k < xs.length) : (xs ++ ys).getD k 0 = xs.getD k 0 := by simp [List.getD, List.getElem?_append_left h]
theorem getD_right {xs ys : List Int} {k : Nat} (h : xs.length ≤ k) : (xs ++ ys).getD k 0 = ys.getD (k - xs.length) 0 := by simp [List.getD, List.getElem?_append_right h]
theorem ats_right (n : Nat) (ps : List Nat) {k : Nat} (h : k < ps.length) : (ats (ps.map (n + ·))).getD k 0 = (n : Int) + (ats ps).getD k 0 := by
  rw [ats_get (by rw [List.length_map]; exact h), ats_get h]
  have : (ps.map (n + ·)).getD k 0 = n + ps.getD k 0 := map_getD _ 0 0 h
  rw [this]; omega
theorem ats_app (a b : List Nat) : ats (a ++ b) = ats a ++ ats b := List.map_append
theorem utfJoin_F (raw b : List Int) (hn : raw.length ≤ 1048576) (hl : b.length ≤ 1048576) (hb : Bytes b) : law01_UtfJoin_F raw b = some true := by
  unfold law01_UtfJoin_F law01_UtfJoin_T
  have ha := encs_bytes raw
  have hla := encs_len raw
  have hall := bytes_app ha hb
  have hlen : (encs raw ++ b).length = (encs raw).length + b.length := List.length_append
  obtain ⟨w1, w2⟩ := starts_encs0 raw
  have hd1 := decode_F ha (by omega)
  have hd2 := decode_F hb (by omega)
  have hd3 := decode_F hall (by omega)
  rw [w2, w1] at hd1
  rw [vals_encs raw hb, starts_encs raw hb, ats_app] at hd3
  have hs := starts_len b b.length 0
  generalize hS : starts b b.length 0 = st at *
  have hv : (vals b st).length = st.length := vals_len _ _
  have hat : (ats st).length = st.length := ats_len _
  have hf : (raw.map fixr).length = raw.length := List.length_map ..
  have hw : (ats (wl raw 0)).length = raw.length := by rw [ats_len, wl_len]
  refine Post.run (Post.bnd awake01 (Post.brF rfl (Post.bnd (encode_F raw (by omega)) (Post.bnd hd1 (Post.bnd hd2 (Post.bnd (app_eq (by simp only [List.length_nil]; omega)) (Post.bnd (app_eq (by simp only [List.nil_append]; omega)) ?_)))))))
  rw [List.nil_append]
  refine Post.bnd hd3 ?_
  dsimp only
  rw [List.length_append, hv, hf]
  refine Post.brF ?_ (Post.altL (count (L := fun s : List Int × List Int × List Int × List Int × List Int × List Int × Int => law01_UtfJoin_L13 s.1 s.2.1 s.2.2.1 s.2.2.2.1 s.2.2.2.2.1 s.2.2.2.2.2.1 s.2.2.2.2.2.2) (raw.length + st.length)
    (fun k => (encs raw, raw.map fixr, vals b st, ats st, raw.map fixr ++ vals b st, ats (wl raw 0) ++ ats (st.map ((encs raw).length + ·)), ((k : Nat) : Int))) (r := Sum.inl ()) rfl (fun k hk => ?_) ?_) (Post.pure rfl))
  · rw [wrap64 (by omega) (by omega)]
    simp
  · dsimp only
    unfold law01_UtfJoin_L13
    rw [List.length_append, hv, hf, wrap_succ (k := k) (by omega)]
    have hrl : (raw.map fixr ++ vals b st).length = raw.length + st.length := by rw [List.length_append, hv, hf]
    refine Post.brT (decide_eq_true (by omega)) (Post.br (fun c => ?_) (fun c => ?_))
    · have c := of_decide_eq_true c
      refine Post.idx 0 k rfl (by rw [hrl]; exact hk) (Post.idx 0 k rfl (by rw [hf]; omega) ?_)
      rw [getD_left (by rw [hf]; omega)]
      exact Post.brF (by simp) (Post.brF (decide_eq_false (by omega)) (Post.pure rfl))
    · have c := of_decide_eq_false c
      have hkw : IntKind.i64.wrap ((k : Int) - (raw.length : Int)) = ((k - raw.length : Nat) : Int) := by rw [wrap64 (by omega) (by omega)]; omega
      rw [hkw]
      refine Post.brT (decide_eq_true (by omega)) (Post.idx 0 k rfl (by rw [hrl]; exact hk) (Post.idx 0 (k - raw.length) rfl (by rw [hv]; omega) ?_))
      rw [getD_right (by rw [hf]; omega), hf]
      have hts : (ats (st.map ((encs raw).length + ·))).length = st.length := by rw [ats_len, List.length_map]
      refine Post.brF (by simp) (Post.idx 0 k rfl (by rw [List.length_append, hw, hts]; exact hk) (Post.idx 0 (k - raw.length) rfl (by rw [hat]; omega) ?_))
      rw [getD_right (by rw [hw]; omega), hw, ats_right _ _ (by omega)]
      have hsp := starts_at hb b.length 0 (by omega) (by omega)
      rw [hS] at hsp
      have hlt := (hsp.2 (k - raw.length) (by omega)).1
      have hge : (ats st).getD (k - raw.length) 0 = ((st.getD (k - raw.length) 0 : Nat) : Int) := ats_get (by omega) 0
      refine Post.brF ?_ (Post.pure rfl)
      rw [hge, wrap64 (by omega) (by omega)]
      simp
  · dsimp only
    unfold law01_UtfJoin_L13
    rw [List.length_append, hv, hf]
    exact Post.brF (decide_eq_false (by omega)) (Post.pure rfl)
theorem utfJoin_all (x : Tys.I [.sl (.int .i32), .sl (.int .u8)]) (h : WfAll [.sl (.int .i32), .sl (.int .u8)] x) (hb : bulkAll [.sl (.int .i32), .sl (.int .u8)] x ≤ 1048576) : law01_UtfJoin_F x.1 x.2.1 = some true := by
  simp only [bulkAll, bulk] at hb
  exact utfJoin_F _ _ (by omega) (by omega) (fun n hn => wf_u8 (h.2.1.2 n hn))

end Go.Proofs.Ytecknolpakmlpaa
