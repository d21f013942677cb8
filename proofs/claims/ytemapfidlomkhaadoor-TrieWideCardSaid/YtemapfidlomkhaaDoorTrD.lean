/-
  The reading of trie.Build, and that its calls do what it says.
-/
import Derived.Test.YtemapfidlomkhaaDoorTrC
namespace Go.Proofs.YtemapfidlomkhaaDoor
set_option linter.all false
open Go.RowKit

open Classical in
noncomputable def trie_Build_F (rs : List (Int × Int × Int)) (other : Int) : Option ((List Int × List Int) × Option (Int × ByteArray × Int)) :=
  match trie_Check_F rs, trie_flat_F rs other with
  | some none, some all => if all.length = 1114112 ∧ ∀ n ∈ all, 0 ≤ n ∧ n ≤ 255 then some ((bls all 8704, (pgs all 8704).flatten), none) else none
  | _, _ => none
noncomputable def trie_Build_fun : Fun := ⟨[.sl (.st (.pair (.int .i32) (.pair (.int .i32) (.int .u8)))), .int .u8], [.v (.ptr (.st (.pair (.sl (.int .i64)) (.sl (.int .u8))))), .v (.err 57 24)], fun x => trie_Build_F x.1 x.2.1⟩

theorem int_args {w : World} {k : IntKind} {n : Int} {v : Value} (h : RdV w (fun _ => False) (.int k) n v) : v = .int k n := by
  obtain ⟨us, h1, h2⟩ := h
  unfold Rd at h1
  subst h1
  exact h2

theorem own_rd {B : Nat} {w : World} {e : TypeId} {k : IntKind} {v : Value} {xs : List Int} {S : Nat → Prop} (h : w.ownsRow B e 1 v xs.length (xs.map (Value.int k))) (hS : ∀ b, B ≤ b → ¬ S b) : Rd w S (.sl (.int k)) xs [v] := by
  unfold Rd
  have hlt := h.lt
  have hc := fun g hg => h.cells (g := g) hg
  rcases h.2 with ⟨rfl, hn⟩ | ⟨g, cap, cur, rfl, hB, hg, hle, _⟩
  · have hn : xs = [] := List.eq_nil_of_length_eq_zero hn
    subst hn
    exact ⟨none, 0, rfl, Nat.le_refl _, fun _ => rfl, fun j x hj => by simp at hj⟩
  · refine ⟨some ⟨g, 0, none⟩, cap, rfl, hle, (fun e => by cases e), fun j x hj => ⟨⟨g, 0, none⟩, rfl, hS g hB, (hlt g rfl).2, [.int k x], by unfold Rd; rfl, fun i u hi => ?_⟩⟩
    match i, hi with
    | 0, hi =>
      cases hi
      have := hc g rfl j (.int k x) (by rw [List.getElem?_map, hj]; rfl)
      simpa [Ty.size] using this

theorem build_ret {B : Nat} {w0 w : World} {ab acap tb mb : Nat} {bv vv : Value} {all bl : List Int} {l : List (List Int)} {D : DataW Unit} {m : Nat} (h : JV B w0 w ab acap tb mb bv vv all bl l D m) :
    RetRd B w [.v (.ptr (.st (.pair (.sl (.int .i64)) (.sl (.int .u8))))), .v (.err 57 24)] ((bl, l.flatten), none) (.tuple #[.pointer (some ⟨tb, 0, none⟩), .nilIface]) := by
  have hS : ∀ b, B ≤ b → ¬ Av (· ∈ ([] : List Nat)) B true b := fun b hb hA => by
    rcases hA with hA | ⟨_, hA⟩
    · simp at hA
    · omega
  refine ⟨[.pointer (some ⟨tb, 0, none⟩), .nilIface], rfl, List.nodup_nil, .pointer (some ⟨tb, 0, none⟩), [.nilIface], rfl, ?_, .nilIface, rfl, ?_⟩
  · refine ⟨[.pointer (some ⟨tb, 0, none⟩)], ?_, rfl⟩
    unfold Rd
    refine ⟨⟨tb, 0, none⟩, rfl, hS tb h.tbB, h.tb_lt, [bv, vv], ?_, fun i u hi => ?_⟩
    · unfold Rd
      unfold Rd
      exact ⟨[bv], [vv], rfl, own_rd h.blr hS, own_rd h.vlr hS⟩
    · match i, hi with
      | 0, hi => cases hi; exact h.fields.1
      | 1, hi => cases hi; exact h.fields.2.1
  · exact ⟨[.nilIface], by unfold Rd; rfl, rfl⟩

theorem trie_Build_ok : FunOk Tryd.prog 11 trie_Build_fun := by
  refine ⟨⟨_, _, Tryd.func11, by kernel_rfl, rfl⟩, fun x r hx w args hla hargs => ?_⟩
  obtain ⟨rs, other, u⟩ := x
  have hx : trie_Build_F rs other = some r := hx
  unfold trie_Build_F at hx
  split at hx
  · rename_i all hck hfl
    split at hx
    · rename_i hc
      have hx := Option.some.inj hx
      subst hx
      obtain ⟨v0, a1, e0, h0, v1, a2, e1, h1, e2⟩ := hargs
      have e2 : a2 = [] := e2
      subst e2 e1
      have h1 : RdV w (fun _ => False) (.int .u8) other v1 := h1
      have := int_args h1
      subst this
      obtain ⟨l⟩ := args
      have e0 : l = _ := e0
      subst e0
      refine (build_main v0 rs other all w hla h0 hck hfl hc.1 hc.2).mono ?_
      rintro e w' ⟨ab, acap, tb, mb, bv, vv, D, m, rfl, hj⟩
      exact ⟨_, rfl, hj.below, build_ret hj⟩
    · cases hx
  · cases hx
end Go.Proofs.YtemapfidlomkhaaDoor
