/-
  From the reading of a law to its statement: what the arguments are, that they read behind the call as before, that it returns true.
-/
import Derived.Test.YtnldcpanpojeiaaGreatDoorEvMainL
import Derived.Test.YtnldcpanpojeiaaGreatDoorRows
import Derived.Below
import Derived.ChangeSame
import Derived.Carry
import Derived.JoinedCond
import Derived.Deep.Grids
import Derived.ChangeSlices
import Derived.ChangeMaps5
namespace Go.Proofs.YtnldcpanpojeiaaGreatDoor
open Go.ChangeShapes Go.WideShapes Go.ChangeAt Go.RowKit
def Wf : (t : Ty) → t.I → Prop
  | .int k, n => (Lit.int k n).wf = true
  | .str, s => s.size ≤ maxLen
  | .sl e, xs => xs.length ≤ maxLen ∧ ∀ x ∈ xs, Wf e x
  | _, _ => True
def bulk : (t : Ty) → t.I → Nat
  | .str, s => s.size
  | .sl _, xs => xs.length
  | _, _ => 0
def WfAll : (ps : List Ty) → Tys.I ps → Prop
  | [], _ => True
  | t :: r, x => Wf t x.1 ∧ WfAll r x.2
def bulkAll : (ps : List Ty) → Tys.I ps → Nat
  | [], _ => 0
  | t :: r, x => bulk t x.1 + bulkAll r x.2
def argOk (G : Ctx) (t : TypeId) : Ty → Bool
  | .int k => match olook t G.ty with | some u => decide (u = .int k) | none => false
  | .bool => match olook t G.ty with | some u => decide (u = .bool) | none => false
  | .str => match olook t G.ty with | some u => decide (u = .str) | none => false
  | .sl (.int k) => match olook t G.sls with | some g => decide (g.e = .int k) | none => false
  | .sl .bool => match olook t G.sls with | some g => decide (g.e = .bool) | none => false
  | _ => false
def argsOk (G : Ctx) : List TypeId → List Ty → Bool
  | [], [] => true
  | t :: ts, τ :: r => argOk G t τ && argsOk G ts r
  | _, _ => false
variable {P : Program} {G : Ctx} {H : Type} {enc : TypeId × Value → H} {W : World}
theorem und_int {t : TypeId} {k : IntKind} (h : TyOk P t (.int k)) : P.underlying t = some (.int k) := by
  obtain ⟨d, e1, c1⟩ := h.desc
  cases d <;> simp only [dchk] at c1 <;> try contradiction
  rename_i k'
  simp only [decide_eq_true_eq] at c1
  subst c1; exact e1
theorem und_bool {t : TypeId} (h : TyOk P t .bool) : P.underlying t = some .bool := by
  obtain ⟨d, e1, c1⟩ := h.desc
  cases d <;> simp only [dchk] at c1 <;> first | contradiction | exact e1
theorem und_str {t : TypeId} (h : TyOk P t .str) : P.underlying t = some .string := by
  obtain ⟨d, e1, c1⟩ := h.desc
  cases d <;> simp only [dchk] at c1 <;> first | contradiction | exact e1
theorem cells_one {t : TypeId} {τ : Ty} (h : TyOk P t τ) : P.cellsOf t = τ.size := by
  obtain ⟨i, hi, hs, _⟩ := h.info
  simp [Program.cellsOf, hi, hs]
theorem cell_lt {w : World} {a : Addr} {v : Value} (h : w.cell? a = some v) : a.block < w.heap.size := by
  rcases Nat.lt_or_ge a.block w.heap.size with h' | h'
  · exact h'
  · unfold World.cell? at h
    simp [h'] at h
theorem rd_row {e : Ty} {a : Addr} {len cap : Nat} {xs : List e.I} (hn : xs.length = len) (hc : len ≤ cap) (h1 : e.size = 1) (mk : e.I → Value) (hmk : ∀ x, Rd W (fun _ => False) e x [mk x]) (hcell : ∀ j x, xs[j]? = some x → W.cell? (a.add j) = some (mk x)) :
    RdV W (fun _ => False) (.sl e) xs (.slice (some a) len cap) := by
  subst hn
  refine ⟨[.slice (some a) xs.length cap], ?_, rfl⟩
  unfold Rd
  refine ⟨some a, cap, rfl, hc, (fun e => by cases e), fun j x hj => ⟨a, rfl, fun h => h, ?_, [mk x], hmk x, fun i u hi => ?_⟩⟩
  · have := cell_lt (hcell j x hj)
    rwa [add_block] at this
  · cases i with
    | zero =>
      cases hi
      rw [h1]
      simpa using hcell j x hj
    | succ i => simp at hi
theorem open_arg (hG : CtxOk P G) : ∀ {τ : Ty} {t : TypeId} {b : Nat} {v : Value} {d : DataW H} {ps : List MemPlace}, argOk G t τ = true → Value.okWide P W .any b t v →
    DataW.Trod enc P W 0 (fun _ => true) true t v d ps → ∃ x : τ.I, RdV W (fun _ => False) τ x v ∧ Wf τ x ∧ bulk τ x + 1 ≤ Rows.uptoBulk d := by
  intro τ t b v d ps hck hval h
  have one : ∀ d : DataW H, 1 ≤ Rows.uptoBulk d := by
    intro d
    cases d with
    | lit l => cases l <;> simp [Rows.uptoBulk]
    | _ => simp [Rows.uptoBulk]
  have len : ∀ l : List (DataW H), l.length ≤ Rows.uptoBulkAll l := by
    intro l
    induction l with
    | nil => simp [Rows.uptoBulkAll]
    | cons x r ih => have := one x; simp only [Rows.uptoBulkAll, List.length_cons]; omega
  have pick : ∀ {u : Ty}, (match olook t G.ty with | some w => decide (w = u) | none => false) = true → TyOk P t u := by
    intro u hu
    split at hu
    · rename_i w hw
      simp only [decide_eq_true_eq] at hu
      subst hu
      exact hG.ty _ _ hw
    · cases hu
  have pickS : ∀ {u : Ty}, (match olook t G.sls with | some g => decide (g.e = u) | none => false) = true → ∃ e, P.underlying t = some (.slice e) ∧ TyOk P e u := by
    intro u hu
    split at hu
    · rename_i g hg
      simp only [decide_eq_true_eq] at hu
      subst hu
      exact ⟨_, (hG.sl _ _ hg).und, (hG.sl _ _ hg).ty⟩
    · cases hu
  match τ, hck with
  | .int k, hck =>
    obtain ⟨n, rfl, rfl, rfl, hw⟩ := open_int (und_int (pick hck)) hval h
    exact ⟨n, int_val _ _, hw, by simp [bulk, Rows.uptoBulk]⟩
  | .bool, hck =>
    obtain ⟨n, rfl, rfl, rfl⟩ := open_bool (und_bool (pick hck)) hval h
    exact ⟨n, bool_val _, trivial, by simp [bulk, Rows.uptoBulk]⟩
  | .str, hck =>
    obtain ⟨s, rfl, rfl, rfl, hs⟩ := Go.ChangeMaps.open_string (und_str (pick hck)) hval h
    refine ⟨s, ⟨_, by unfold Rd; rfl, rfl⟩, hs, ?_⟩
    simp only [bulk, Rows.uptoBulk, Array.length_toList]
    exact Nat.le_refl _
  | .sl (.int k), hck =>
    obtain ⟨e, hu, he⟩ := pickS hck
    obtain ⟨fuel, hf⟩ := h
    obtain ⟨a, len', cap, rfl⟩ := okWide_slice hu hval
    rcases open_ints hu (und_int he) (cells_one he) hf with ⟨e1, e2⟩ | ⟨a, n, cap, zs, e1, _, hl, hm, hz, e2, hc, hw⟩
    · simp [Value.cells] at e1 e2
      obtain ⟨rfl, rfl, rfl⟩ := e1
      obtain ⟨rfl, rfl⟩ := e2
      exact ⟨[], nil_val, ⟨Nat.zero_le _, fun x hx => by cases hx⟩, by simp [bulk, Rows.uptoBulk]⟩
    · simp [Value.cells] at e1 e2 hz
      obtain ⟨rfl, rfl, rfl⟩ := e1
      obtain ⟨rfl, rfl⟩ := e2
      have hn : (zs.take len').length = len' := by rw [List.length_take]; omega
      refine ⟨zs.take len', rd_row hn hl rfl (fun n => .int k n) (fun x => by unfold Rd; rfl) (fun j x hj => ?_), ⟨by rw [hn]; omega, fun x hx => hw x (List.mem_of_mem_take hx)⟩, ?_⟩
      · have hj' : zs[j]? = some x := by
          rw [List.getElem?_take] at hj
          split at hj
          · exact hj
          · cases hj
        have hlt : j < zs.length := (List.getElem?_eq_some_iff.1 hj').1
        rw [hc j hlt]
        simp [List.getD, hj']
      · have := len (lits (H := H) k (zs.take len'))
        simp only [bulk, Rows.uptoBulk]
        have h2 : (lits (H := H) k (zs.take len')).length = (zs.take len').length := by simp [lits]
        have h3 : List.length (α := Int) (zs.take len') = (zs.take len').length := rfl
        omega
  | .sl .bool, hck =>
    obtain ⟨e, hu, he⟩ := pickS hck
    obtain ⟨fuel, hf⟩ := h
    obtain ⟨a, len', cap, rfl⟩ := okWide_slice hu hval
    rcases Go.Deep.open_bools hu (und_bool he) (cells_one he) hf with ⟨e1, e2⟩ | ⟨a, n, cap, Bf, e1, _, hl, hm, e2, hc⟩
    · simp [Value.cells] at e1 e2
      obtain ⟨rfl, rfl, rfl⟩ := e1
      obtain ⟨rfl, rfl⟩ := e2
      exact ⟨[], nil_val, ⟨Nat.zero_le _, fun x hx => by cases hx⟩, by simp [bulk, Rows.uptoBulk]⟩
    · simp [Value.cells] at e1 e2
      obtain ⟨rfl, rfl, rfl⟩ := e1
      obtain ⟨rfl, rfl⟩ := e2
      have hn : ((List.range len').map Bf).length = len' := by simp
      refine ⟨(List.range len').map Bf, rd_row hn hl rfl (fun n => .bool n) (fun x => by unfold Rd; rfl) (fun j x hj => ?_), ⟨by rw [hn]; omega, fun x hx => trivial⟩, ?_⟩
      · have hlt : j < len' := by
          have := (List.getElem?_eq_some_iff.1 hj).1
          simpa using this
        rw [hc j (by omega)]
        simp [hlt] at hj
        rw [← hj]
      · have := len ((List.range len').map fun i => (DataW.lit (H := H) (.bool (Bf i))))
        simp only [bulk, Go.Deep.boolRow, Rows.uptoBulk]
        simp only [List.length_map, List.length_range] at this
        have h3 : List.length (α := Bool) ((List.range len').map Bf) = len' := by simp
        omega
theorem open_args (hG : CtxOk P G) : ∀ {ps : List Ty} {ts : List TypeId} {vs : List Value} {ds : List (DataW H)} {pl : List MemPlace} {b : Nat}, argsOk G ts ps = true →
    (∀ (j : Nat) t v, ts[j]? = some t → vs[j]? = some v → Value.okWide P W .any b t v) → DataW.TrodAll enc P W 0 (fun _ => true) true ts vs ds pl →
    ∃ x : Tys.I ps, ArgsRd W ps x vs ∧ WfAll ps x ∧ bulkAll ps x ≤ Rows.uptoBulkAll ds ∧ ds.length = ps.length
  | [], ts, vs, ds, pl, b, hck, hval, h => by
    cases ts with
    | nil =>
      obtain ⟨rfl, rfl, rfl⟩ := trodAll_nil h
      exact ⟨(), rfl, trivial, by simp [bulkAll], rfl⟩
    | cons t ts => cases hck
  | τ :: r, ts, vs, ds, pl, b, hck, hval, h => by
    cases ts with
    | nil => cases hck
    | cons t ts =>
      simp only [argsOk, Bool.and_eq_true] at hck
      obtain ⟨v, vs', d, ds', p, q, rfl, rfl, rfl, h0, h1⟩ := trodAll_cons h
      obtain ⟨x, hx, hw, hb⟩ := open_arg hG hck.1 (hval 0 t v rfl rfl) h0
      obtain ⟨y, hy, hwy, hby, hl⟩ := open_args hG hck.2 (fun j t v ht hv => hval (j + 1) t v (by simpa using ht) (by simpa using hv)) h1
      exact ⟨(x, y), ⟨v, vs', rfl, hx, hy⟩, ⟨hw, hwy⟩, by simp only [bulkAll, Rows.uptoBulkAll]; omega, by simp [hl]⟩
theorem args_stay (hl : laidOutB P = true) {W' : World} (hb : Below W.heap.size W W') {sp : Nat → Bool} : ∀ {ts : List TypeId} {vs : List Value} {ds : List (DataW H)} {pl : List MemPlace}, (∀ t ∈ ts, P.readableRec t = true ∧ t < P.types.size) →
    (∀ p ∈ pl, p.block < W.heap.size ∧ sp p.block = true) → DataW.TrodAll enc P W 0 (fun _ => true) true ts vs ds pl → DataW.TrodAll enc P W' 0 sp true ts vs ds pl
  | [], vs, ds, pl, _, _, h => by
    obtain ⟨rfl, rfl, rfl⟩ := trodAll_nil h
    exact trodAll_mk0
  | t :: ts, vs, ds, pl, hr, hp, h => by
    obtain ⟨v, vs', d, ds', p, q, rfl, rfl, rfl, h0, h1⟩ := trodAll_cons h
    refine trodAll_cons_mk (WideElems.Trod_stays hl (hr t (by simp)).1 (hr t (by simp)).2 h0 (fun x hx => hb.same (hp x (by simp [hx])).1) (fun x hx => (hp x (by simp [hx])).2))
      (args_stay hl hb (fun t ht => hr t (by simp [ht])) (fun x hx => hp x (by simp [hx])) h1)
theorem law_contract (hG : CtxOk P G) (hl : laidOutB P = true) {f : FuncId} {fn : Func} {ps : List Ty} {F : Tys.I ps → Option (RTys.I [.v .bool])} (hok : FunOk P f ⟨ps, [.v .bool], F⟩) {s : ChangeSpec} (hvars : s.vars = [])
    (hck : argsOk G fn.params.toList ps = true) (hrec : fn.params.toList.all (fun t => P.readableRec t && decide (t < P.types.size)) = true) {tb : TypeId} (hres : fn.resultTypes = #[tb]) (htb : P.underlying tb = some .bool)
    (hspec : ∀ ds : List (DataW H), ds.length = ps.length → s.fn H ds = { results := [.lit (.bool true)], args := ds }) {N : Nat} (hF : ∀ x, WfAll ps x → bulkAll ps x ≤ N → F x = some true)
    {base : Nat} {args : Array Value} {ds gs : List (DataW H)} {before : List MemPlace} (hla : Held W) (hval : ∀ (j : Nat) t v, fn.params[j]? = some t → args[j]? = some v → Value.okWide P W .any base t v)
    (hW : DataW.Whole enc P fn.params.toList s.vars false W args.toList ds gs before) (hN : Rows.uptoBulkAll (ds ++ gs) ≤ N) {fresh handsOn again : Bool} :
    Calls P f args W fun e W' => ∃ v, e = .returned v ∧ s.post enc P fn false fresh handsOn again W args v W' := by
  have hlt : ∀ p ∈ before, p.block < W.heap.size := fun p hp => hW.lt p hp
  have hW' := hW
  obtain ⟨p, q, hA, hV, rfl, hfz, hnd⟩ := hW
  rw [hvars] at hV
  obtain ⟨rfl, rfl⟩ := trodVars_none hV
  rw [List.append_nil] at hN
  obtain ⟨x, hx, hw, hb, hlen⟩ := open_args hG hck (fun j t v ht hv => hval j t v (by simpa using ht) (by simpa using hv)) hA
  refine (hok.calls x true (hF x hw (by omega)) W args hla hx).mono fun e W' ⟨v, he, hbl, hr⟩ => ?_
  obtain ⟨vs, hv, _, hrl⟩ := hr
  obtain ⟨u, rfl, hu⟩ := hrl
  have hub := val_bool hu
  have hv : v = .bool true := hv.trans hub
  subst hv
  have hsp : s.fn H (ds ++ []) = { results := [.lit (.bool true)], args := ds } := by rw [List.append_nil]; exact hspec ds hlen
  have hrec' : ∀ t ∈ fn.params.toList, P.readableRec t = true ∧ t < P.types.size := by
    intro t ht
    have := List.all_eq_true.1 hrec t ht
    simpa using this
  have back : ∀ sp : Nat → Bool, (∀ x ∈ p, sp x.block = true) → DataW.TrodAll enc P W' 0 sp true fn.params.toList args.toList (s.fn H (ds ++ [])).args p := by
    intro sp hsp'
    rw [hsp]
    exact args_stay hl hbl hrec' (fun x hx => ⟨hlt x (by simpa using hx), hsp' x hx⟩) hA
  have told : ∀ (b : Nat) (sp : Nat → Bool) (hd : Bool), DataW.TrodAll enc P W' b sp hd fn.resultTypes.toList ((Value.bool true).resultList fn.resultTypes.size) (s.fn H (ds ++ [])).results [] := by
    intro b sp hd
    rw [hsp, hres]
    exact trodAll_cons_mk (shut_bool htb _) trodAll_mk0
  have none' : ∀ sp : Nat → Bool, DataW.TrodVars enc P W' sp s.vars (s.fn H (ds ++ [])).vars [] := by
    intro sp
    rw [hvars, hsp]
    exact rfl
  refine ⟨_, he, ds, [], p ++ [], [], p, [], hW', told _ _ _, back _ (fun x hx => by simpa using hlt x (by simpa using hx)), none' _,
    World.keptBut_mono (fun x hx => ⟨hx, .inr (by simpa using hx)⟩) (hbl.frame (· ∈ p ++ [])), fun _ => ⟨ok_one hres rfl (okWide_bool_mk htb true), _, _, ([] ++ p) ++ [],
      ⟨[] ++ p, [], trodAll_append (back _ fun _ _ => rfl) (told _ _ _), none' _, rfl, ?_, ?_⟩, ?_⟩⟩
  · intro b off hx
    have hin : MemPlace.cell b off ∈ p ++ [] := by simpa using hx
    rw [hbl.frozen (hlt _ hin)]
    exact hfz b off hin
  · intro ha
    exact absurd ha (by simp)
  · intro x hx _
    simpa using hx
end Go.Proofs.YtnldcpanpojeiaaGreatDoor
