/-
  LayoutChecks holds.
-/
import Derived.Test.YtnldcpanpojeiaaGreatDoorLcH
namespace Go.Proofs.YtnldcpanpojeiaaGreatDoor
set_option linter.all false
open Go.RowKit

noncomputable def lc_F (n : Int) : Option Bool := if 0 ≤ n ∧ n ≤ 255 then some true else none
noncomputable def law30_LayoutChecks_fun : Fun := ⟨[.int .i64, .int .i64, .int .u8, .str], [.v .bool], fun x => lc_F x.2.2.1⟩
theorem int_args {w : World} {k : IntKind} {n : Int} {v : Value} (h : RdV w (fun _ => False) (.int k) n v) : v = .int k n := by
  obtain ⟨us, h1, h2⟩ := h
  unfold Rd at h1
  subst h1
  exact h2
theorem str_args {w : World} {s : ByteArray} {v : Value} (h : RdV w (fun _ => False) .str s v) : v = .string s := by
  obtain ⟨us, h1, h2⟩ := h
  unfold Rd at h1
  subst h1
  exact h2
theorem law30_LayoutChecks_ok : FunOk Tryz.prog 3 law30_LayoutChecks_fun := by
  refine ⟨⟨_, _, Tryz.func3, by kernel_rfl, rfl⟩, fun x r hx w args hla hargs => ?_⟩
  obtain ⟨b, d, n, s, u⟩ := x
  have hx : lc_F n = some r := hx
  unfold lc_F at hx
  split at hx
  · rename_i hn
    have hx := Option.some.inj hx
    subst hx
    obtain ⟨v0, a1, e0, h0, v1, a2, e1, h1, v2, a3, e2, h2, v3, a4, e3, h3, e4⟩ := hargs
    have e4 : a4 = [] := e4
    subst e4 e3 e2 e1
    have h0 : RdV w (fun _ => False) (.int .i64) b v0 := h0
    have h1 : RdV w (fun _ => False) (.int .i64) d v1 := h1
    have h2 : RdV w (fun _ => False) (.int .u8) n v2 := h2
    have h3 : RdV w (fun _ => False) .str s v3 := h3
    obtain rfl := int_args h0
    obtain rfl := int_args h1
    obtain rfl := int_args h2
    obtain rfl := str_args h3
    obtain ⟨l⟩ := args
    have e0 : l = _ := e0
    subst e0
    have main : Calls Tryz.prog 3 #[.int .i64 b, .int .i64 d, .int .u8 n, .string s] w fun e w' => e = .returned (.bool true) ∧ Below w.heap.size w w' := by
      by_cases hb : 1073741824 < b
      · by_cases hd : d < 1
        · exact lc_long1 b d n s w hla hn hb hd
        · exact lc_long2 b d n s w hla hn hb hd
      · by_cases hd : d < 1
        · exact lc_width b d n s w hla hn hb hd
        · exact lc_ok b d n s w hla hn hb hd
    refine main.mono ?_
    rintro e w' ⟨rfl, hb⟩
    exact ⟨_, rfl, hb, [.bool true], rfl, List.nodup_nil, .bool true, rfl, bool_val _⟩
  · cases hx
theorem layoutChecks_all (x : Tys.I [.int .i64, .int .i64, .int .u8, .str]) (h : WfAll [.int .i64, .int .i64, .int .u8, .str] x) : lc_F x.2.2.1 = some true := if_pos (wf_u8 h.2.2.1)
end Go.Proofs.YtnldcpanpojeiaaGreatDoor
