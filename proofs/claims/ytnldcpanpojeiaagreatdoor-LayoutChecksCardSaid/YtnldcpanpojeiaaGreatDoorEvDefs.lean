/-
  A reading of loaded functions as plain functions on plain data (definitions alone; what they say of the program is proved in the files behind).
-/
import Derived.WalkKit
import Derived.ProofKit
import Derived.OpenShut
import Derived.LoopN
import Derived.Deep.Quiet
import Derived.StillTail
import Derived.Tactics
import Derived.Maps.AppendAt
import Derived.KernelRfl
import Derived.Laws.BytesArg
import Derived.Laws.Cover4
import Derived.Laws.Cover3
namespace Go.Proofs.YtnldcpanpojeiaaGreatDoor
inductive Ty where
  | int (k : IntKind)
  | bool
  | str
  | err (tf te : Nat)
  | eno (te : Nat)
  | arr (n : Nat) (e : Ty)
  | sl (e : Ty)
  | st (p : Ty)
  | ptr (p : Ty)
  | pair (a b : Ty)
  | hole
  | fn (f : Nat) (p : Ty)
  deriving DecidableEq
@[reducible] def Ty.I : Ty → Type
  | .int _ => Int
  | .bool => Bool
  | .str => ByteArray
  | .err _ _ => Option (Int × ByteArray × Int)
  | .eno _ => Int
  | .arr _ e => List e.I
  | .sl e => List e.I
  | .st p => p.I
  | .ptr p => p.I
  | .pair a b => a.I × b.I
  | .hole => Unit
  | .fn _ p => p.I
def Ty.flat : Ty → Bool
  | .int _ | .bool | .str => true
  | .eno _ => true
  | .hole => true
  | .arr _ e => e.flat
  | .st p => p.flat
  | .pair a b => a.flat && b.flat
  | _ => false
def Ty.plain : Ty → Bool
  | .ptr _ => false
  | .eno _ => false
  | .hole => false
  | .fn _ _ => false
  | .arr _ e => e.plain
  | .st p => p.plain
  | .pair a b => a.plain && b.plain
  | _ => true
def Ty.size : Ty → Nat
  | .st p => p.size
  | .arr n e => n * e.size
  | .pair a b => a.size + b.size
  | _ => 1
def Ty.zero : (t : Ty) → t.I
  | .int _ => (0 : Int)
  | .bool => false
  | .str => ByteArray.empty
  | .err _ _ => none
  | .eno _ => (0 : Int)
  | .arr n e => List.replicate n e.zero
  | .sl _ => []
  | .st p => p.zero
  | .ptr p => p.zero
  | .pair a b => (a.zero, b.zero)
  | .hole => ()
  | .fn _ p => p.zero
def Ty.cast (a b : Ty) (x : a.I) : Option b.I := if h : a = b then some (h ▸ x) else none
inductive Step where
  | enter
  | left
  | right
  | at (i : Int)
  deriving DecidableEq
def idx {α : Type} (xs : List α) (i : Int) : Option α := if 0 ≤ i then xs[i.toNat]? else none
structure Dat where
  t : Ty
  x : t.I
def getAt : (t : Ty) → List Step → t.I → Option Dat
  | t, [], x => some ⟨t, x⟩
  | .st p, .enter :: r, x => getAt p r x
  | .pair a _, .left :: r, x => getAt a r x.1
  | .pair _ b, .right :: r, x => getAt b r x.2
  | .arr _ e, .at i :: r, x => match idx x i with | some y => getAt e r y | none => none
  | _, _, _ => none
def setAt : (t : Ty) → List Step → t.I → (u : Ty) → u.I → Option t.I
  | t, [], _, u, y => Ty.cast u t y
  | .st p, .enter :: r, x, u, y => setAt p r x u y
  | .pair a _, .left :: r, x, u, y => match setAt a r x.1 u y with | some z => some (z, x.2) | none => none
  | .pair _ b, .right :: r, x, u, y => match setAt b r x.2 u y with | some z => some (x.1, z) | none => none
  | .arr _ e, .at i :: r, x, u, y => match idx x i with | some z => (match setAt e r z u y with | some z' => some (x.set i.toNat z') | none => none) | none => none
  | _, _, _, _, _ => none
def offAt : Ty → List Step → Nat
  | .st p, .enter :: r => offAt p r
  | .pair a _, .left :: r => offAt a r
  | .pair a b, .right :: r => a.size + offAt b r
  | .arr _ e, .at i :: r => i.toNat * e.size + offAt e r
  | _, _ => 0
def fieldPath : Ty → Nat → List Step
  | .pair _ _, 0 => [.left]
  | .pair _ b, k + 1 => .right :: fieldPath b k
  | _, 0 => []
  | _, _ + 1 => [.left]
def rowCells {α : Type} (f : α → Option (List Value)) : List α → Option (List Value)
  | [] => some []
  | x :: r => match f x, rowCells f r with
    | some a, some b => some (a ++ b)
    | _, _ => none
def cellsOf : (t : Ty) → t.I → Option (List Value)
  | .int k, n => some [.int k n]
  | .bool, b => some [.bool b]
  | .arr n e, xs => if Nat.beq (List.length xs) n then rowCells (cellsOf e) xs else none
  | .st p, x => cellsOf p x
  | .pair a b, x => match cellsOf a x.1, cellsOf b x.2 with
    | some c, some d => some (c ++ d)
    | _, _ => none
  | _, _ => none
def gvar : Option Dat := some ⟨.arr 35 (.st (.pair (.int .i32) (.int .i32))), ([(40, 41), (60, 62), (91, 93), (123, 125), (171, 187), (8249, 8250), (8261, 8262), (8317, 8318), (8333, 8334), (8712, 8715), (8713, 8716), (8804, 8805), (8806, 8807), (8810, 8811), (8834, 8835), (8838, 8839), (8968, 8969), (8970, 8971), (9001, 9002), (10214, 10215), (10216, 10217), (10218, 10219), (10627, 10628), (12296, 12297), (12298, 12299), (12300, 12301), (12302, 12303), (12304, 12305), (12308, 12309), (12310, 12311), (65288, 65289), (65308, 65310), (65339, 65341), (65371, 65373), (65378, 65379)] : List (Int × Int))⟩
def gcells : Option (List Value) := match gvar with | some v => cellsOf v.t v.x | none => none
def laidL : List Value := [.iface 138 (.agg #[.pointer (some ⟨2, 24, none⟩)])]
def gIdx : Nat := 1
def atB (b : Nat) : Nat → List Value → List (Nat × Nat × Value)
  | _, [] => []
  | i, c :: l => (b, i, c) :: atB b (i + 1) l
def heldCells : List (Nat × Nat × Value) := atB 0 0 laidL ++ (match gcells with | some cs => atB gIdx 0 cs | none => [])
inductive Tr (α : Type) : Type 1 where
  | pure (a : α)
  | fail
  | br (c : Bool) (t e : Tr α)
  | bnd {β : Type} (o : Option β) (k : β → Tr α)
  | alt {β γ : Type} (o : Option (Sum β γ)) (k : β → Tr α) (j : γ → Tr α)
def Tr.bind {α γ : Type} : Tr α → (α → Tr γ) → Tr γ
  | .pure a, f => f a
  | .fail, _ => .fail
  | .br c t e, f => .br c (t.bind f) (e.bind f)
  | .bnd o k, f => .bnd o fun b => (k b).bind f
  | .alt o k j, f => .alt o (fun b => (k b).bind f) (fun b => (j b).bind f)
def Tr.run {α : Type} : Tr α → Option α
  | .pure a => some a
  | .fail => none
  | .br c t e => if c then t.run else e.run
  | .bnd o k => match o with | some b => (k b).run | none => none
  | .alt o k j => match o with | some (.inl b) => (k b).run | some (.inr b) => (j b).run | none => none
inductive Lap (σ ρ : Type) where
  | next (s : σ)
  | done (r : ρ)
def loopF {σ ρ : Type} (f : σ → Option (Lap σ ρ)) : Nat → σ → Option ρ
  | 0, _ => none
  | n + 1, s => match f s with
    | some (.next s') => loopF f n s'
    | some (.done r) => some r
    | none => none
def loopW {σ ρ : Type} (f : σ → Option (Lap σ ρ)) (s : σ) : Option ρ := loopF f 1000000000 s
def app {α : Type} (lim : Nat) (xs ys : List α) : Option (List α) := if xs.length + ys.length ≤ lim then some (xs ++ ys) else none
def mk {α : Type} (lim : Nat) (z : α) (n : Int) : Option (List α) := if 0 ≤ n ∧ n ≤ lim then some (List.replicate n.toNat z) else none
def cut {α : Type} (xs : List α) (lo hi : Int) : Option (List α) := if 0 ≤ lo ∧ lo ≤ hi ∧ hi ≤ xs.length then some ((xs.take hi.toNat).drop lo.toNat) else none
def ibits (op : BinOp) (k : IntKind) (x y : Int) : Int :=
  let a := BitVec.ofInt k.bits x
  let b := BitVec.ofInt k.bits y
  match op with
  | .and => k.wrap (a &&& b).toNat
  | .or => k.wrap (a ||| b).toNat
  | .xor => k.wrap (a ^^^ b).toNat
  | _ => k.wrap (a &&& ~~~b).toNat
inductive Slot where
  | undef
  | skip
  | lit (b : Bool)
  | val (fr : Bool) (t : Ty) (x : t.I)
  | nil
  | nili
  | nilp
  | hv (t : Ty) (x : t.I) (rows : List (Nat × Nat))
  | nn (fr : Bool) (e : Ty) (xs : List e.I)
  | ref (tag : Nat)
  | eptr (tag : Nat) (i : Int) (path : List Step) (t : Ty) (snap : Option t.I)
  | cptr (fr : Bool) (t : Ty) (x : t.I)
  | view (tag lo : Nat) (fr : Bool) (e : Ty) (xs : List e.I)
  | lref
  | leptr (i : Int) (e : Ty) (path : List Step) (t : Ty)
  | lview (lo : Nat) (e : Ty) (xs : List e.I)
  | lenof (n : Nat)
  | tup (ss : List Slot)
structure Obj where
  eid : TypeId
  fr : Bool
  e : Ty
  xs : List e.I
structure Hole where
  box : Option Nat
  off : Nat
  row : Nat
structure St where
  env : List Slot
  objs : List (Nat × Obj)
  lent : Option Obj := none
  holes : List Hole := []
def sameBox : Option Nat → Option Nat → Bool
  | some a, some b => Nat.beq a b
  | none, none => true
  | _, _ => false
def dropH (tag : Nat) : List Hole → List Hole
  | [] => []
  | h :: r => if sameBox h.box (some tag) || Nat.beq h.row tag then dropH tag r else h :: dropH tag r
def dropB (b : Option Nat) : List Hole → List Hole
  | [] => []
  | h :: r => if sameBox h.box b then dropB b r else h :: dropB b r
def keepH (b : Option Nat) (lo n : Nat) : List Hole → List Hole
  | [] => []
  | h :: r => if sameBox h.box b && !(Nat.blt h.off lo || Nat.ble (lo + n) h.off) then keepH b lo n r else h :: keepH b lo n r
def hlook (b : Option Nat) (off : Nat) : List Hole → Option Nat
  | [] => none
  | h :: r => if sameBox h.box b && Nat.beq h.off off then some h.row else hlook b off r
def isTk (tag : Nat) : Bool := Nat.ble 1000000000000000 tag
def olook {α : Type} (tag : Nat) : List (Nat × α) → Option α
  | [] => none
  | (k, o) :: r => if Nat.beq k tag then some o else olook tag r
def odrop {α : Type} (tag : Nat) : List (Nat × α) → List (Nat × α)
  | [] => []
  | (k, o) :: r => if Nat.beq k tag then odrop tag r else (k, o) :: odrop tag r
def hasRow (tag : Nat) : List (Nat × Nat) → Bool
  | [] => false
  | q :: r => Nat.beq q.2 tag || hasRow tag r
def Slot.poison1 (tag : Nat) : Slot → Slot
  | .hv t x rows => if hasRow tag rows then .undef else .hv t x rows
  | .ref t => if Nat.beq t tag then .undef else .ref t
  | .eptr t i p u s => if Nat.beq t tag then .undef else .eptr t i p u s
  | .view t l f e xs => if Nat.beq t tag then .undef else .view t l f e xs
  | .tup _ => .undef
  | s => s
def Slot.poison (tag : Nat) : Slot → Slot
  | .tup ss => .tup (ss.map (Slot.poison1 tag))
  | s => s.poison1 tag
def Slot.stale1 (tag : Nat) : Slot → Slot
  | .hv t x rows => if hasRow tag rows then .undef else .hv t x rows
  | .eptr t i p u s => if Nat.beq t tag then .eptr t i p u none else .eptr t i p u s
  | .view t l f e xs => if Nat.beq t tag then .undef else .view t l f e xs
  | .tup _ => .undef
  | s => s
def Slot.stale (tag : Nat) : Slot → Slot
  | .tup ss => .tup (ss.map (Slot.stale1 tag))
  | s => s.stale1 tag
def Slot.thaw1 (tag : Nat) (o : Obj) : Slot → Slot
  | .hv t x rows => if hasRow tag rows then .undef else .hv t x rows
  | .ref t => if Nat.beq t tag then .val o.fr (.sl o.e) o.xs else .ref t
  | .eptr t i p u s => if Nat.beq t tag then .undef else .eptr t i p u s
  | .view t l f e xs => if Nat.beq t tag then .undef else .view t l f e xs
  | .tup _ => .undef
  | s => s
def Slot.thaw (tag : Nat) (o : Obj) : Slot → Slot
  | .tup ss => .tup (ss.map (Slot.thaw1 tag o))
  | s => s.thaw1 tag o
def ptrVal (fr : Bool) (t : Ty) (x : t.I) (i : Int) : List Step → Slot
  | [] => if i == 0 then .val fr (.ptr t) x else .undef
  | _ => .undef
def Slot.thawB1 (tag : Nat) (fr : Bool) (t : Ty) (x : t.I) : Slot → Slot
  | .hv t' x' rows => if hasRow tag rows then .undef else .hv t' x' rows
  | .ref g => if Nat.beq g tag then .undef else .ref g
  | .eptr g i p u s => if Nat.beq g tag then ptrVal fr t x i p else .eptr g i p u s
  | .view g l f e xs => if Nat.beq g tag then .undef else .view g l f e xs
  | .tup _ => .undef
  | s => s
def Slot.thawB (tag : Nat) (fr : Bool) (t : Ty) (x : t.I) : Slot → Slot
  | .tup ss => .tup (ss.map (Slot.thawB1 tag fr t x))
  | s => s.thawB1 tag fr t x
def Slot.staleL1 : Slot → Slot
  | .lview .. => .undef
  | .tup _ => .undef
  | s => s
def Slot.staleL : Slot → Slot
  | .tup ss => .tup (ss.map Slot.staleL1)
  | s => s.staleL1
def Slot.poisonL1 : Slot → Slot
  | .lref => .undef
  | .leptr .. => .undef
  | .lview .. => .undef
  | .tup _ => .undef
  | s => s
def Slot.poisonL : Slot → Slot
  | .tup ss => .tup (ss.map Slot.poisonL1)
  | s => s.poisonL1
def Slot.lens1 (tag n : Nat) : Slot → Slot
  | .ref t => if Nat.beq t tag then .lenof n else .ref t
  | .tup _ => .undef
  | s => s
def Slot.lens (tag n : Nat) : Slot → Slot
  | .tup ss => .tup (ss.map (Slot.lens1 tag n))
  | s => s.lens1 tag n
def Slot.isSkip : Slot → Bool
  | .skip => true
  | _ => false
def St.get (st : St) (i : Nat) : Slot := match st.env[i]? with | some s => s | none => .undef
def St.set (st : St) (i : Nat) (s : Slot) : St := { st with env := st.env.set i s }
def St.put (st : St) (d : Option Tmp) (s : Slot) : St := match d with | some i => st.set i s | none => st
def St.new (st : St) (tag : Nat) (o : Obj) : St := { st with env := st.env.map (Slot.poison tag), objs := (tag, o) :: odrop tag st.objs, holes := dropH tag st.holes }
def St.turn (st : St) (tag : Nat) (o : Obj) : St := { st with env := st.env.map (Slot.stale tag), objs := (tag, o) :: odrop tag st.objs, holes := dropB (some tag) st.holes }
def St.turnL (st : St) (o : Obj) : St := { st with env := st.env.map Slot.staleL, lent := some o, holes := dropB none st.holes }
def St.newL (st : St) (o : Obj) : St := { st with env := st.env.map Slot.poisonL, lent := some o, holes := dropB none st.holes }
def St.turnK (st : St) (tag : Nat) (o : Obj) (lo n : Nat) : St := { st.turn tag o with holes := keepH (some tag) lo n st.holes }
def St.turnLK (st : St) (o : Obj) (lo n : Nat) : St := { st.turnL o with holes := keepH none lo n st.holes }
def St.lens (st : St) (tag n : Nat) : St := { st with env := st.env.map (Slot.lens tag n) }
def St.freeze (st : St) (tag : Nat) (o : Obj) : St := { st with env := st.env.map (Slot.thaw tag o), objs := odrop tag st.objs, holes := dropH tag st.holes }
def St.freezeB (st : St) (tag : Nat) (fr : Bool) (t : Ty) (x : t.I) : St := { st with env := st.env.map (Slot.thawB tag fr t x), objs := odrop tag st.objs, holes := dropH tag st.holes }
def holeT : Ty → Ty
  | .st p => .st (holeT p)
  | .pair a b => .pair (holeT a) (holeT b)
  | .sl _ => .hole
  | t => t
def strip : (t : Ty) → t.I → (holeT t).I
  | .int _, x => x
  | .bool, x => x
  | .str, x => x
  | .err _ _, x => x
  | .eno _, x => x
  | .arr _ _, x => x
  | .ptr _, x => x
  | .hole, x => x
  | .fn _ _, x => x
  | .sl _, _ => ()
  | .st p, x => strip p x
  | .pair a b, x => (strip a x.1, strip b x.2)
structure Row where
  e : Ty
  xs : List e.I
def rowsOf : (t : Ty) → t.I → Nat → List (Nat × Row)
  | .st p, x, k => rowsOf p x k
  | .pair a b, x, k => rowsOf a x.1 k ++ rowsOf b x.2 (k + a.size)
  | .sl e, xs, k => [(k, ⟨e, xs⟩)]
  | _, _, _ => []
def fillT (get : Nat → Option Row) : (t : Ty) → Nat → (holeT t).I → Option t.I
  | .int _, _, x => some x
  | .bool, _, x => some x
  | .str, _, x => some x
  | .err _ _, _, x => some x
  | .eno _, _, x => some x
  | .arr _ _, _, x => some x
  | .ptr _, _, x => some x
  | .hole, _, x => some x
  | .fn _ _, _, x => some x
  | .sl e, k, _ => match get k with | some r => Ty.cast (.sl r.e) (.sl e) r.xs | none => none
  | .st p, k, x => fillT get p k x
  | .pair a b, k, x => match fillT get a k x.1, fillT get b (k + a.size) x.2 with
    | some y, some z => some (y, z)
    | _, _ => none
def holesOf : Ty → Nat → List (Nat × Ty)
  | .st p, k => holesOf p k
  | .pair a b, k => holesOf a k ++ holesOf b (k + a.size)
  | .sl e, k => [(k, e)]
  | _, _ => []
def rowTag : Option Nat → Nat → Nat
  | some g, k => 100000 * (g + 1) + k
  | none, k => 1000000000000000 + k
def eidAt (hs : List (Nat × TypeId)) (k : Nat) : TypeId := match olook k hs with | some e => e | none => 0
def rowObj (st : St) (b : Option Nat) (k : Nat) : Option (Nat × Obj) := match hlook b k st.holes with
  | some r => match olook r st.objs with
    | some o => some (r, o)
    | none => none
  | none => none
def rowGet (st : St) (b : Option Nat) (k : Nat) : Option Row := match rowObj st b k with | some ro => some ⟨ro.2.e, ro.2.xs⟩ | none => none
def rowsOk (st : St) (b : Option Nat) (hs : List (Nat × TypeId)) (tk : Bool) : List (Nat × Ty) → Bool
  | [] => true
  | (k, _) :: r => (match rowObj st b k with
    | some ro => Nat.beq ro.2.eid (eidAt hs k) && ro.2.e.flat && (tk || !isTk ro.1)
    | none => false) && rowsOk st b hs tk r
def rowTagsOf (st : St) (b : Option Nat) : List (Nat × Ty) → List Nat
  | [] => []
  | (k, _) :: r => (match rowObj st b k with | some ro => [ro.1] | none => []) ++ rowTagsOf st b r
def boxFull (st : St) (b : Option Nat) (o : Obj) (hs : List (Nat × TypeId)) (tk : Bool) (p : Ty) : Option p.I :=
  match o.xs with
  | [x] => match Ty.cast o.e (holeT p) x with
    | some x => if rowsOk st b hs tk (holesOf p 0) && (holeT p).flat then fillT (rowGet st b) p 0 x else none
    | none => none
  | _ => none
def layRow1 (st : St) (b : Option Nat) (k : Nat) (o : Obj) : St := { st.new (rowTag b k) o with holes := ⟨b, k, rowTag b k⟩ :: (st.new (rowTag b k) o).holes }
def layRows (b : Option Nat) (hs : List (Nat × TypeId)) : List (Nat × Row) → St → St
  | [], st => st
  | (k, r) :: l, st => layRows b hs l (layRow1 st b k ⟨eidAt hs k, true, r.e, r.xs⟩)
def St.forget (st : St) (tag : Nat) : St := { st with env := st.env.map (Slot.poison tag), objs := odrop tag st.objs, holes := dropH tag st.holes }
def forgetAll : List Nat → St → St
  | [], st => st
  | g :: r, st => forgetAll r (st.forget g)
def St.asVal (st : St) (s : Slot) (t : Ty) : Option (Bool × t.I) :=
  match s with
  | .val fr u x => match Ty.cast u t x with | some y => some (fr, y) | none => none
  | .lit b => match Ty.cast .bool t b with | some y => some (true, y) | none => none
  | .nil => match t with | .sl _ => some (true, []) | _ => none
  | .nili => match t with | .err _ _ => some (true, none) | _ => none
  | .nn fr e xs => match Ty.cast (.sl e) t xs with | some y => some (fr, y) | none => none
  | .ref tag => match olook tag st.objs with | some o => (match Ty.cast (.sl o.e) t o.xs with | some y => some (o.fr, y) | none => none) | none => none
  | .view _ _ fr e xs => match Ty.cast (.sl e) t xs with | some y => some (fr, y) | none => none
  | .lref => match st.lent with | some o => (match Ty.cast (.sl o.e) t o.xs with | some y => some (false, y) | none => none) | none => none
  | .lview _ e xs => match Ty.cast (.sl e) t xs with | some y => some (false, y) | none => none
  | _ => none
def St.asOwn (st : St) (s : Slot) (t : Ty) : Option (Bool × t.I) :=
  match s with
  | .view .. => none
  | .lref => none
  | .lview .. => none
  | .ref tag => if isTk tag then none else st.asVal (.ref tag) t
  | s => st.asVal s t
def St.give (st : St) (s : Slot) : St :=
  match s with
  | .ref tag => match olook tag st.objs with | some o => st.freeze tag o | none => st
  | _ => st
structure SlInfo where
  eid : TypeId
  e : Ty
  lim : Nat
structure Ctx where
  ty : List (Nat × Ty)
  sls : List (Nat × SlInfo)
  eqs : List (Nat × Ty) := []
  enos : List Nat := []
def eqD : (t : Ty) → t.I → t.I → Bool
  | .int _, x, y => x == y
  | .bool, x, y => x == y
  | .st p, x, y => eqD p x y
  | .pair a b, x, y => eqD a x.1 y.1 && eqD b x.2 y.2
  | _, _, _ => false
inductive RTy where
  | v (t : Ty)
  | row (eid : TypeId) (e : Ty)
@[reducible] def RTy.I : RTy → Type
  | .v t => t.I
  | .row _ e => List e.I
@[reducible] def Tys.I : List Ty → Type
  | [] => Unit
  | t :: r => t.I × Tys.I r
@[reducible] def RTys.I : List RTy → Type
  | [] => Unit
  | [r] => r.I
  | r :: s :: q => r.I × RTys.I (s :: q)
structure Fun where
  ps : List Ty
  rs : List RTy
  F : Tys.I ps → Option (RTys.I rs)
def St.opd (st : St) : Operand → Option Slot
  | .tmp t => some (st.get t)
  | .const (.int k n) => some (.val true (.int k) n)
  | .const (.bool b) => some (.lit b)
  | .const (.string s) => some (.val true .str s)
  | .const (.slice none 0 0) => some .nil
  | .const .nilIface => some .nili
  | .const (.pointer none) => some .nilp
  | _ => none
def constInt : Operand → Option Int
  | .const (.int _ n) => some n
  | _ => none
def bools : Slot → Option Bool
  | .lit b => some b
  | .val _ .bool b => some b
  | _ => none
def cmpOp : BinOp → Int → Int → Option Bool
  | .eql, x, y => some (x == y)
  | .neq, x, y => some (x != y)
  | .lss, x, y => some (decide (x < y))
  | .leq, x, y => some (decide (x ≤ y))
  | .gtr, x, y => some (decide (x > y))
  | .geq, x, y => some (decide (x ≥ y))
  | _, _, _ => none
def arith : BinOp → IntKind → Int → Int → Option Int
  | .add, k, x, y => some (k.wrap (x + y))
  | .sub, k, x, y => some (k.wrap (x - y))
  | .mul, k, x, y => some (k.wrap (x * y))
  | .and, k, x, y => some (ibits .and k x y)
  | .or, k, x, y => some (ibits .or k x y)
  | .xor, k, x, y => some (ibits .xor k x y)
  | .andNot, k, x, y => some (ibits .andNot k x y)
  | _, _, _, _ => none
def divide : BinOp → IntKind → Int → Int → Int
  | .quo, k, x, y => k.wrap (x.tdiv y)
  | _, _, x, y => x.tmod y
def shiftBy : BinOp → IntKind → Int → Int → Int
  | .shl, k, x, y => k.wrap (x * 2 ^ (min y.toNat k.bits))
  | _, k, x, y => x.fdiv (2 ^ (min y.toNat k.bits))
def isDiv : BinOp → Bool
  | .quo | .rem => true
  | _ => false
def isShift : BinOp → Bool
  | .shl | .shr => true
  | _ => false
def evBin (G : Ctx) (st : St) (d : Option Tmp) (op : BinOp) (t : TypeId) (x y : Operand) : Tr St :=
  match st.opd x, st.opd y with
  | some (.val _ (.int k) a), some (.val _ (.int k') b) =>
    if isShift op then
      match constInt y with
      | some c => if c < 0 then .fail else .pure (st.put d (.val true (.int k) (shiftBy op k a b)))
      | none => .br (decide (0 ≤ b)) (.pure (st.put d (.val true (.int k) (shiftBy op k a b)))) .fail
    else if k = k' then
      if isDiv op then
        match constInt y with
        | some c => if c = 0 then .fail else .pure (st.put d (.val true (.int k) (divide op k a b)))
        | none => .br (b != 0) (.pure (st.put d (.val true (.int k) (divide op k a b)))) .fail
      else match cmpOp op a b with
        | some c => .pure (st.put d (.val true .bool c))
        | none => match arith op k a b with
          | some c => .pure (st.put d (.val true (.int k) c))
          | none => .fail
    else .fail
  | some (.val _ .str a), some (.val _ .str b) =>
    match op with
    | .eql => .pure (st.put d (.val true .bool (a.toList == b.toList)))
    | .neq => .pure (st.put d (.val true .bool (!(a.toList == b.toList))))
    | .add => .br (decide (a.size + b.size ≤ 9223372036854775807)) (.pure (st.put d (.val true .str (a ++ b)))) .fail
    | _ => .fail
  | some (.val _ (.st p) a), some (.val _ (.st q) b) =>
    match op, olook t G.eqs, Ty.cast q p b with
    | .eql, some u, some b => if u = p then .pure (st.put d (.val true .bool (eqD p a b))) else .fail
    | .neq, some u, some b => if u = p then .pure (st.put d (.val true .bool (!(eqD p a b)))) else .fail
    | _, _, _ => .fail
  | some (.val _ (.err _ _) a), some .nili =>
    match op, olook t G.ty, y with
    | .eql, some (.err _ _), .const .nilIface => .pure (st.put d (.val true .bool a.isNone))
    | .neq, some (.err _ _), .const .nilIface => .pure (st.put d (.val true .bool a.isSome))
    | _, _, _ => .fail
  | some (.val _ (.ptr _) _), some .nilp =>
    match op, olook t G.ty with
    | .eql, some (.ptr _) => .pure (st.put d (.lit false))
    | .neq, some (.ptr _) => .pure (st.put d (.lit true))
    | _, _ => .fail
  | some (.nn _ _ _), some .nil =>
    match op, olook t G.ty with
    | .eql, some (.sl _) => .pure (st.put d (.lit false))
    | .neq, some (.sl _) => .pure (st.put d (.lit true))
    | _, _ => .fail
  | some .nil, some .nil =>
    match op, olook t G.ty with
    | .eql, some (.sl _) => .pure (st.put d (.lit true))
    | .neq, some (.sl _) => .pure (st.put d (.lit false))
    | _, _ => .fail
  | some a, some b =>
    match op, bools a, bools b, olook t G.ty with
    | .eql, some a, some b, some .bool => .pure (st.put d (.val true .bool (a == b)))
    | .neq, some a, some b, some .bool => .pure (st.put d (.val true .bool (!(a == b))))
    | _, _, _, _ => .fail
  | _, _ => .fail
def evUn (st : St) (d : Option Tmp) (op : UnOp) (x : Operand) : Tr St :=
  match op, st.opd x with
  | .not, some (.lit b) => .pure (st.put d (.lit !b))
  | .not, some (.val _ .bool b) => .pure (st.put d (.val true .bool !b))
  | .neg, some (.val _ (.int k) n) => .pure (st.put d (.val true (.int k) (k.wrap (0 - n))))
  | _, _ => .fail
def tyAt : Ty → List Step → Option Ty
  | t, [] => some t
  | .st p, .enter :: r => tyAt p r
  | .pair a _, .left :: r => tyAt a r
  | .pair _ b, .right :: r => tyAt b r
  | .arr n e, .at i :: r => if 0 ≤ i ∧ i.toNat < n then tyAt e r else none
  | _, _ => none
def evField (G : Ctx) (st : St) (d : Option Tmp) (t : TypeId) (x : Operand) (f : Nat) : Tr St :=
  match olook t G.ty, st.opd x with
  | some (.st q), some (.cptr fr (.st p) v) => if p = q then (match getAt (.st p) (.enter :: fieldPath p f) v with
    | some ⟨u, y⟩ => .pure (st.put d (.cptr fr u y))
    | none => .fail) else .fail
  | some (.st q), some (.eptr tag i path (.st p) snap) =>
    if p = q ∨ p = holeT q then (match tyAt (.st p) (.enter :: fieldPath p f) with
    | some u => .pure (st.put d (.eptr tag i (path ++ .enter :: fieldPath p f) u (match snap with
        | some v => (match getAt (.st p) (.enter :: fieldPath p f) v with | some ⟨u', y⟩ => Ty.cast u' u y | none => none)
        | none => none)))
    | none => .fail) else .fail
  | some (.st q), some (.leptr i e path (.st p)) =>
    if p = q ∨ p = holeT q then (match tyAt (.st p) (.enter :: fieldPath p f) with
    | some u => .pure (st.put d (.leptr i e (path ++ .enter :: fieldPath p f) u))
    | none => .fail) else .fail
  | _, _ => .fail
def evIndexAddrA (G : Ctx) (st : St) (d : Option Tmp) (t : TypeId) (x i : Operand) : Tr St :=
  match olook t G.ty, st.opd x, st.opd i with
  | some (.arr n e), some (.cptr fr (.arr n' e') y), some (.val _ (.int _) k) =>
    if n = n' ∧ e = e' then .bnd (idx y k) fun z => .pure (st.put d (.cptr fr e' z)) else .fail
  | some (.arr n e), some (.eptr tag i path (.arr n' e') (some y)), some (.val _ (.int _) k) =>
    if n = n' ∧ e = e' then .bnd (idx y k) fun z => .pure (st.put d (.eptr tag i (path ++ [.at k]) e' (some z))) else .fail
  | _, _, _ => .fail
def evIndex (G : Ctx) (st : St) (d : Option Tmp) (t : TypeId) (x i : Operand) : Tr St :=
  match olook t G.ty, st.opd x, st.opd i with
  | some (.arr n e), some (.val fr (.arr n' e') y), some (.val _ (.int _) k) =>
    if n = n' ∧ e = e' then .bnd (idx y k) fun z => .pure (st.put d (.val fr e' z)) else .fail
  | _, _, _ => .fail
def isArr : Option Ty → Bool
  | some (.arr _ _) => true
  | _ => false
def evIndexAddr (G : Ctx) (st : St) (d : Option Tmp) (t : TypeId) (x i : Operand) : Tr St :=
  match olook t G.sls, st.opd x, st.opd i with
  | some g, some (.val fr (.sl e) xs), some (.val _ (.int _) n) =>
    if e = g.e then .bnd (idx xs n) fun y => .pure (st.put d (.cptr fr e y)) else .fail
  | some g, some (.ref tag), some (.val _ (.int _) n) =>
    match olook tag st.objs with
    | some o => if o.e = g.e then .bnd (idx o.xs n) fun y => .pure (st.put d (.eptr tag n [] o.e (some y))) else .fail
    | none => .fail
  | some g, some .lref, some (.val _ (.int _) n) =>
    match st.lent with
    | some o => if o.e = g.e then .bnd (idx o.xs n) fun _ => .pure (st.put d (.leptr n o.e [] o.e)) else .fail
    | none => .fail
  | _, _, _ => .fail
def evLoad0 (G : Ctx) (st : St) (d : Option Tmp) (t : TypeId) (a : Operand) : Tr St :=
  match olook t G.ty, st.opd a with
  | some u, some (.cptr fr u' x) => match Ty.cast u' u x with | some y => .pure (st.put d (.val fr u y)) | none => .fail
  | some u, some (.val fr (.ptr u') x) => match Ty.cast u' u x with | some y => .pure (st.put d (.val fr u y)) | none => .fail
  | some u, some (.eptr tag i path u' snap) =>
    match olook tag st.objs with
    | some o => match snap with
      | some x => (match Ty.cast u' u x with | some y => .pure (st.put d (.val o.fr u y)) | none => .fail)
      | none => .bnd (idx o.xs i) fun el => match getAt o.e path el with
        | some ⟨u'', x⟩ => (match Ty.cast u'' u x with | some y => .pure (st.put d (.val o.fr u y)) | none => .fail)
        | none => .fail
    | none => .fail
  | some u, some (.leptr i e path _) =>
    match st.lent with
    | some o => if o.e = e then .bnd (idx o.xs i) fun el => match getAt o.e path el with
        | some ⟨u'', x⟩ => (match Ty.cast u'' u x with | some y => .pure (st.put d (.val false u y)) | none => .fail)
        | none => .fail
      else .fail
    | none => .fail
  | _, _ => .fail
def isGlob : Operand → Bool
  | .global g => Nat.beq g gIdx
  | _ => false
def isHoleS : Option Slot → Bool
  | some (.eptr _ _ _ .hole _) => true
  | some (.leptr _ _ _ .hole) => true
  | _ => false
def evLoadH (G : Ctx) (st : St) (d : Option Tmp) (t : TypeId) (a : Operand) : Tr St :=
  match olook t G.ty, st.opd a with
  | some (.sl e), some (.eptr tag 0 path _ _) =>
    match olook tag st.objs with
    | some o => (match rowObj st (some tag) (offAt o.e path) with
      | some ro => if ro.2.e = e then .pure (st.put d (.ref ro.1)) else .fail
      | none => .fail)
    | none => .fail
  | some (.sl e), some (.leptr 0 e' path _) =>
    match rowObj st none (offAt e' path) with
    | some ro => if ro.2.e = e then .pure (st.put d (.ref ro.1)) else .fail
    | none => .fail
  | _, _ => .fail
def freezeRows : List Nat → St → St
  | [], st => st
  | g :: r, st => freezeRows r (match olook g st.objs with | some o => st.freeze g o | none => st)
def evLoadW (G : Ctx) (hs : List (Nat × TypeId)) (st : St) (d : Option Tmp) (t : TypeId) (a : Operand) : Tr St :=
  match olook t G.ty, d, st.opd a with
  | some (.st p), some d, some (.eptr tag 0 [] _ _) =>
    match olook tag st.objs with
    | some o => (match boxFull st (some tag) o hs false (.st p) with
      | some y => .pure ((freezeRows (rowTagsOf st (some tag) (holesOf p 0)) st).set d (.val true (.st p) y))
      | none => .fail)
    | none => .fail
  | _, _, _ => .fail
def evLoad (G : Ctx) (st : St) (d : Option Tmp) (t : TypeId) (a : Operand) : Tr St :=
  if isHoleS (st.opd a) then evLoadH G st d t a else if isGlob a then (match gvar, gcells, olook t G.ty with
    | some v, some _, some u => (match Ty.cast v.t u v.x with | some y => .pure (st.put d (.val true u y)) | none => .fail)
    | _, _, _ => .fail)
  else evLoad0 G st d t a
def evStore0 (G : Ctx) (st : St) (d : Option Tmp) (t : TypeId) (a v : Operand) : Tr St :=
  match olook t G.ty, st.opd a, st.opd v with
  | some u, some (.eptr tag i path u' _), some s =>
    if u = u' then
      match st.asOwn s u with
      | some (fr, y) =>
        let st := st.give s
        (match olook tag st.objs with
        | some o => (match path with
          | [] => (match Ty.cast u o.e y with
            | some z => .pure ((st.turn tag ⟨o.eid, o.fr && (fr || u.flat), o.e, o.xs.set i.toNat z⟩).put d .undef)
            | none => .fail)
          | _ => .bnd (idx o.xs i) fun el => (match setAt o.e path el u y with
            | some z => .pure ((st.turnK tag ⟨o.eid, o.fr && (fr || u.flat), o.e, o.xs.set i.toNat z⟩ (i.toNat * o.e.size + offAt o.e path) u.size).put d .undef)
            | none => .fail))
        | none => .fail)
      | none => .fail
    else .fail
  | some u, some (.leptr i e path u'), some s =>
    if u = u' then
      match st.asOwn s u with
      | some (_, y) =>
        let st := st.give s
        (match st.lent with
        | some o => if o.e = e then .bnd (idx o.xs i) fun el => (match setAt o.e path el u y with
            | some z => .pure ((st.turnLK ⟨o.eid, false, o.e, o.xs.set i.toNat z⟩ (i.toNat * o.e.size + offAt o.e path) u.size).put d .undef)
            | none => .fail) else .fail
        | none => .fail)
      | none => .fail
    else .fail
  | _, _, _ => .fail
def evStoreH (G : Ctx) (st : St) (d : Option Tmp) (t : TypeId) (a v : Operand) : Tr St :=
  match olook t G.ty, st.opd a, st.opd v with
  | some (.sl e), some (.eptr tag 0 path .hole _), some (.ref r) =>
    match olook tag st.objs, olook r st.objs with
    | some o, some q => (match o.xs with
      | [el] => (match setAt o.e path el .hole () with
        | some z => if q.e = e && !Nat.beq r tag then
            .pure ({ st.turnK tag ⟨o.eid, o.fr, o.e, [z]⟩ (offAt o.e path) 1 with holes := ⟨some tag, offAt o.e path, r⟩ :: (st.turnK tag ⟨o.eid, o.fr, o.e, [z]⟩ (offAt o.e path) 1).holes }.put d .undef)
          else .fail
        | none => .fail)
      | _ => .fail)
    | _, _ => .fail
  | some (.sl e), some (.leptr 0 e' path .hole), some (.ref r) =>
    match st.lent, olook r st.objs with
    | some o, some q => (match o.xs with
      | [el] => (match setAt o.e path el .hole () with
        | some z => if q.e = e && o.e = e' then
            .pure ({ st.turnLK ⟨o.eid, false, o.e, [z]⟩ (offAt o.e path) 1 with holes := ⟨none, offAt o.e path, r⟩ :: (st.turnLK ⟨o.eid, false, o.e, [z]⟩ (offAt o.e path) 1).holes }.put d .undef)
          else .fail
        | none => .fail)
      | _ => .fail)
    | _, _ => .fail
  | _, _, _ => .fail
def isHv : Option Slot → Bool
  | some (.hv _ _ _) => true
  | _ => false
def holesIn (d : Nat) : List (Nat × Nat) → List Hole
  | [] => []
  | q :: r => ⟨some d, q.1, q.2⟩ :: holesIn d r
def evStoreV (G : Ctx) (st : St) (d : Option Tmp) (t : TypeId) (a v : Operand) : Tr St :=
  match olook t G.ty, a, st.opd a, st.opd v with
  | some (.st p), .tmp i, some (.eptr tag 0 [] _ _), some (.hv u y rows) =>
    match olook tag st.objs with
    | some o => (match Ty.cast (.sl o.e) (.sl (.st p)) o.xs with
      | some [x] => if u = .st (holeT p) && !hasRow tag rows then
          .pure ({ (((st.new tag ⟨o.eid, true, .st (holeT p), [strip p x]⟩).set i (.eptr tag 0 [] (.st (holeT p)) none)).turn tag ⟨o.eid, true, u, [y]⟩) with holes := holesIn tag rows ++ (((st.new tag ⟨o.eid, true, .st (holeT p), [strip p x]⟩).set i (.eptr tag 0 [] (.st (holeT p)) none)).turn tag ⟨o.eid, true, u, [y]⟩).holes }.put d .undef)
        else .fail
      | _ => .fail)
    | none => .fail
  | _, _, _, _ => .fail
def evStore (G : Ctx) (st : St) (d : Option Tmp) (t : TypeId) (a v : Operand) : Tr St := if isHoleS (st.opd a) then evStoreH G st d t a v else if isHv (st.opd v) then evStoreV G st d t a v else evStore0 G st d t a v
def evParts (e : Ty) : Nat → List (Nat × Operand) → St → Option (Bool × List e.I × St)
  | _, [], st => some (true, [], st)
  | k, (j, x) :: r, st =>
    if Nat.beq j k then
      match st.opd x with
      | some s => match st.asOwn s e with
        | some (fr, y) => match evParts e (k + 1) r (st.give s) with
          | some (fr', ys, st') => some ((fr || e.flat) && fr', y :: ys, st')
          | none => none
        | none => none
      | none => none
    else none
def evBuildSlice (G : Ctx) (st : St) (d : Option Tmp) (t : TypeId) (n : Nat) (parts : Array (Nat × Operand)) : Tr St :=
  match olook t G.sls, d with
  | some i, some d =>
    if Nat.beq n parts.toList.length && Nat.ble (n * i.e.size) 16777216 && i.e.plain then
      match evParts i.e 0 parts.toList st with
      | some (fr, xs, st) => .pure ((st.new d ⟨i.eid, fr, i.e, xs⟩).set d (.ref d))
      | none => .fail
    else .fail
  | _, _ => .fail
def evFields (p : Ty) (pth : Nat → List Step) : List (Nat × Operand) → St → Bool → p.I → Option (Bool × p.I × St)
  | [], st, fr, x => some (fr, x, st)
  | (k, o) :: r, st, fr, x =>
    match st.opd o, tyAt p (pth k) with
    | some s, some u => match st.asOwn s u with
      | some (fr', y) => match setAt p (pth k) x u y with
        | some z => evFields p pth r (st.give s) (fr && (fr' || u.flat)) z
        | none => none
      | none => none
    | _, _ => none
def evBuild (G : Ctx) (st : St) (d : Option Tmp) (t : TypeId) (parts : Array (Nat × Operand)) : Tr St :=
  match olook t G.ty with
  | some (.arr n e) => if !e.plain then .fail else match evFields (.arr n e) (fun k => [.at k]) parts.toList st true (List.replicate n e.zero) with
    | some (fr, xs, st) => .pure (st.put d (.val fr (.arr n e) xs))
    | none => .fail
  | some (.st p) => if !p.plain then .fail else match evFields p (fieldPath p) parts.toList st true p.zero with
    | some (fr, x, st) => .pure (st.put d (.val fr (.st p) x))
    | none => .fail
  | _ => .fail
def nilRows (d : Nat) (hs : List (Nat × TypeId)) : List (Nat × Ty) → St → St
  | [], st => st
  | (k, e) :: r, st => nilRows d hs r (st.new (rowTag (some d) k) ⟨eidAt hs k, true, e, []⟩)
def rows0 (d : Nat) : List (Nat × Ty) → List (Nat × Nat)
  | [] => []
  | (k, _) :: r => (k, rowTag (some d) k) :: rows0 d r
def rset (k q : Nat) : List (Nat × Nat) → List (Nat × Nat)
  | [] => []
  | (j, p) :: r => if Nat.beq j k then (j, q) :: rset k q r else (j, p) :: rset k q r
def apartR (lo n : Nat) : List (Nat × Nat) → Bool
  | [] => true
  | q :: r => (Nat.blt q.1 lo || Nat.ble (lo + n) q.1) && apartR lo n r
def isHole : Ty → Bool
  | .hole => true
  | _ => false
def flatVal (s : Slot) (u : Ty) : Option u.I := match s with
  | .val _ t x => Ty.cast t u x
  | .lit b => Ty.cast .bool u b
  | _ => none
def evFieldsH (p : Ty) (st : St) : List (Nat × Operand) → p.I → List (Nat × Nat) → Option (p.I × List (Nat × Nat))
  | [], x, rows => some (x, rows)
  | (k, o) :: r, x, rows =>
    match st.opd o, tyAt p (fieldPath p k) with
    | some s, some u => if isHole u then (match s with
        | .ref q => (match olook q st.objs, setAt p (fieldPath p k) x .hole () with
          | some _, some z => evFieldsH p st r z (rset (offAt p (fieldPath p k)) q rows)
          | _, _ => none)
        | _ => none)
      else if u.flat && apartR (offAt p (fieldPath p k)) u.size rows then (match flatVal s u with
        | some y => (match setAt p (fieldPath p k) x u y with
          | some z => evFieldsH p st r z rows
          | none => none)
        | none => none)
      else none
    | _, _ => none
def evBuildH (G : Ctx) (hs : List (Nat × TypeId)) (st : St) (d : Option Tmp) (t : TypeId) (parts : Array (Nat × Operand)) : Tr St :=
  match olook t G.ty, d with
  | some (.st p), some d =>
    if !p.plain || !(holeT p).flat then .fail else
      match evFieldsH (holeT p) (nilRows d hs (holesOf p 0) st) parts.toList (strip p p.zero) (rows0 d (holesOf p 0)) with
      | some (x, rows) => .pure ((nilRows d hs (holesOf p 0) st).set d (.hv (.st (holeT p)) x rows))
      | none => .fail
  | _, _ => .fail
def evBoxH (G : Ctx) (st : St) (d : Option Tmp) (t : TypeId) (x : Operand) : Tr St :=
  match olook t G.ty, d, st.opd x with
  | some (.st p), some d, some (.hv u y rows) =>
    if u = .st (holeT p) && !hasRow d rows then
      .pure ({ st.new d ⟨t, true, u, [y]⟩ with holes := holesIn d rows ++ (st.new d ⟨t, true, u, [y]⟩).holes }.set d (.eptr d 0 [] u none))
    else .fail
  | _, _, _ => .fail
def evPart (G : Ctx) (st : St) (d : Option Tmp) (t : TypeId) (x : Operand) (f : Nat) : Tr St :=
  match olook t G.ty, st.opd x with
  | some (.st q), some (.val fr (.st p) v) => if p = q then (match getAt (.st p) (.enter :: fieldPath p f) v with
    | some ⟨u, y⟩ => .pure (st.put d (.val fr u y))
    | none => .fail) else .fail
  | _, _ => .fail
def evBox (G : Ctx) (st : St) (d : Option Tmp) (t : TypeId) (x : Option Operand) : Tr St :=
  match olook t G.ty, d with
  | some u, some d => match x with
    | none => if !u.plain then .fail else .pure ((st.new d ⟨t, true, u, [u.zero]⟩).set d (.eptr d 0 [] u (some u.zero)))
    | some x => match st.opd x with
      | some s => match st.asOwn s u with
        | some (fr, y) => .pure (((st.give s).new d ⟨t, fr || u.flat, u, [y]⟩).set d (.eptr d 0 [] u (some y)))
        | none => .fail
      | none => .fail
  | _, _ => .fail
def sameOpd : Operand → Operand → Bool
  | .tmp i, .tmp j => Nat.beq i j
  | .const (.int _ m), .const (.int _ n) => m == n
  | _, _ => false
def evMake (G : Ctx) (st : St) (d : Option Tmp) (t : TypeId) (n c : Operand) : Tr St :=
  match olook t G.sls, d, st.opd n, st.opd c with
  | some i, some d, some (.val _ (.int .i64) n'), some (.val _ (.int .i64) c') =>
    if !i.e.plain then .fail else if sameOpd n c then .bnd (mk i.lim i.e.zero n') fun xs => .pure ((st.new d ⟨i.eid, true, i.e, xs⟩).set d (.ref d))
    else .br (decide (n' ≤ c') && decide (c' ≤ i.lim)) (.bnd (mk i.lim i.e.zero n') fun xs => .pure ((st.new d ⟨i.eid, true, i.e, xs⟩).set d (.ref d))) .fail
  | _, _, _, _ => .fail
def lowOf (st : St) : Option Operand → Option Int
  | none => some 0
  | some o => match st.opd o with | some (.val _ (.int _) n) => some n | _ => none
def highOf (st : St) (len : Int) : Option Operand → Option Int
  | none => some len
  | some o => match st.opd o with | some (.val _ (.int _) n) => some n | _ => none
def inList (n : Nat) : List Nat → Bool
  | [] => false
  | k :: r => if Nat.beq k n then true else inList n r
def nodupTags : List Nat → Bool
  | [] => true
  | k :: r => !inList k r && nodupTags r
inductive Item where
  | sv (i : Nat) (fr : Bool) (t : Ty)
  | srow (i tag : Nat) (eid : TypeId) (fr : Bool) (e : Ty)
  | sbox (i tag : Nat) (eid : TypeId) (fr : Bool) (t : Ty)
  | sref (j i tag : Nat)
  | sptr (j i tag : Nat) (t : Ty)
  | slit (i : Nat) (b : Bool)
  | snil (i : Nat)
  | slrow (i : Nat) (eid : TypeId) (e : Ty)
  | slbox (i : Nat) (eid : TypeId) (t : Ty)
  | slref (j : Nat)
  | slptr (j : Nat) (t : Ty)
  | sboxh (i tag : Nat) (eid : TypeId) (p : Ty) (hs : List (Nat × TypeId)) (als : List (Nat × Nat))
  | slboxh (i : Nat) (eid : TypeId) (p : Ty) (hs : List (Nat × TypeId))
structure Ann where
  pops : List Nat
  perms : List (Nat × List Nat) := []
  lents : List Nat := []
  joins : List (Nat × List Item) := []
  cuts : List (Nat × List (Nat × List Item)) := []
  holed : List (Nat × List (Nat × TypeId)) := []
def Ann.holedAt (A : Ann) : Option Tmp → Option (List (Nat × TypeId))
  | some d => olook d A.holed
  | none => none
def Ann.order (A : Ann) (id n : Nat) : List Nat := match olook id A.perms with | some σ => σ | none => List.range n
def evSlice (G : Ctx) (A : Ann) (st : St) (d : Option Tmp) (t : TypeId) (x : Operand) (lo hi mx : Option Operand) : Tr St :=
  match mx, d, olook t G.sls with
  | none, some d, some g => match st.opd x with
    | some (.val fr (.sl e) xs) => if e = g.e then (match lowOf st lo, highOf st xs.length hi with
      | some l, some h => .bnd (cut xs l h) fun ys => .pure (st.set d (.val fr (.sl e) ys))
      | _, _ => .fail) else .fail
    | some (.ref tag) => match olook tag st.objs with
      | some o => if !decide (o.e = g.e) then .fail else match lowOf st lo, highOf st o.xs.length hi with
        | some l, some h =>
          if inList d A.pops then (match lo with
            | none => .bnd (cut o.xs 0 h) fun ys => .pure ((st.new tag ⟨o.eid, o.fr, o.e, ys⟩).set d (.ref tag))
            | _ => .fail)
          else .bnd (cut o.xs l h) fun ys => .pure (st.set d (.view tag l.toNat o.fr o.e ys))
        | _, _ => .fail
      | none => .fail
    | some .lref => match st.lent with
      | some o => if !decide (o.e = g.e) then .fail else match lowOf st lo, highOf st o.xs.length hi with
        | some l, some h => .bnd (cut o.xs l h) fun ys => .pure (st.set d (.lview l.toNat o.e ys))
        | _, _ => .fail
      | none => .fail
    | _ => .fail
  | _, _, _ => .fail
def notOf (tag : Nat) : Slot → Bool
  | .ref t => !Nat.beq tag t
  | .view t .. => !Nat.beq tag t
  | _ => true
def St.asSrc (st : St) (s : Slot) (e : Ty) : Option (Bool × List e.I) :=
  match s with
  | .view .. => if e.flat then st.asVal s (.sl e) else none
  | .lref => if e.flat then st.asVal s (.sl e) else none
  | .lview .. => if e.flat then st.asVal s (.sl e) else none
  | s => st.asVal s (.sl e)
def evAppend (G : Ctx) (st : St) (d : Option Tmp) (t : TypeId) (s x : Operand) : Tr St :=
  match olook t G.sls, d, st.opd s, st.opd x with
  | some i, some d, some s', some x' =>
    if !i.e.plain then .fail else match st.asSrc x' i.e with
    | some (fr, ys) => match s' with
      | .nil => .bnd (app i.lim [] ys) fun zs => .pure ((st.new d ⟨i.eid, fr || i.e.flat, i.e, zs⟩).set d (.ref d))
      | .ref tag => match olook tag st.objs with
        | some o => if notOf tag x' && Nat.beq o.eid i.eid then (match Ty.cast (.sl o.e) (.sl i.e) o.xs with
          | some xs => .bnd (app i.lim xs ys) fun zs => .pure (((st.lens tag o.xs.length).new tag ⟨i.eid, o.fr && (fr || i.e.flat), i.e, zs⟩).set d (.ref tag))
          | none => .fail) else .fail
        | none => .fail
      | _ => .fail
    | none => .fail
  | _, _, _, _ => .fail
def evConvert (G : Ctx) (st : St) (d : Option Tmp) (src dst : TypeId) (x : Operand) : Tr St :=
  match olook src G.ty, olook dst G.ty, st.opd x with
  | some (.int _), some (.int k), some (.val _ (.int _) n) => .pure (st.put d (.val true (.int k) (k.wrap n)))
  | some (.int _), some .str, some (.val _ (.int _) n) => .pure (st.put d (.val true .str (Utf8.encode n)))
  | _, _, _ => .fail
def evConvS (i : SlInfo) (st : St) (d : Option Tmp) (x : Operand) : Tr St :=
  match st.opd x with
  | some s => if decide (i.e = .int .u8) then (match st.asSrc s (.int .u8) with
      | some (_, ys) => .pure (st.put d (.val true .str (strOfNums ys)))
      | none => .fail) else .fail
  | none => .fail
def evConvR (i : SlInfo) (st : St) (d : Option Tmp) (x : Operand) : Tr St :=
  match st.opd x with
  | some s => if decide (i.e = .int .i32) then (match st.asSrc s (.int .i32) with
      | some (_, ys) => .pure (st.put d (.val true .str (runesBytes ys)))
      | none => .fail) else .fail
  | none => .fail
def runesL (s : ByteArray) : Nat → Nat → List Int
  | 0, _ => []
  | b + 1, i => if i < s.size then ((Utf8.decode s i).1 : Int) :: runesL s b (i + (Utf8.decode s i).2) else []
def runesOf (s : ByteArray) : List Int := runesL s s.size 0
def runeTs : List Nat := [43]
def evRunes (G : Ctx) (st : St) (d : Option Tmp) (src dst : TypeId) (x : Operand) : Tr St :=
  match olook dst G.sls, d, olook src G.ty, st.opd x with
  | some i, some d, some .str, some (.val _ .str s) =>
    if decide (i.e = .int .i32 ∧ i.lim ≤ 70368744177664) then .bnd (app i.lim [] (runesOf s)) fun zs => .pure ((st.new d ⟨i.eid, true, .int .i32, zs⟩).set d (.ref d)) else .fail
  | _, _, _, _ => .fail
def evMarks (G : Ctx) (st : St) (d : Option Tmp) (src dst : TypeId) (x : Operand) : Tr St :=
  match olook dst G.sls, d, st.opd x with
  | some i, some d, some (.ref tag) => (match olook tag st.objs with
    | some o => if Nat.beq src dst && decide (i.e = .int .u8) && !isTk tag && !o.xs.isEmpty then (match Ty.cast (.sl o.e) (.sl (.int .u8)) o.xs with
        | some xs => .pure ((st.forget tag).set d (.val false (.sl (.int .u8)) xs))
        | none => .fail)
      else .fail
    | none => .fail)
  | _, _, _ => .fail
def evConv (G : Ctx) (st : St) (d : Option Tmp) (src dst : TypeId) (x : Operand) : Tr St :=
  match olook src G.sls, olook dst G.ty with
  | some i, some .str => if decide (i.e = .int .u8) then evConvS i st d x else evConvR i st d x
  | _, _ => evConvert G st d src dst x
def evLen (G : Ctx) (st : St) (d : Option Tmp) (t : TypeId) (x : Operand) : Tr St :=
  match olook t G.ty, st.opd x with
  | some (.sl _), some (.val _ (.sl _) xs) => .pure (st.put d (.val true (.int .i64) (xs.length : Int)))
  | some .str, some (.val _ .str s) => .pure (st.put d (.val true (.int .i64) (s.size : Int)))
  | some (.sl _), some (.ref tag) => match olook tag st.objs with
    | some o => .pure (st.put d (.val true (.int .i64) (o.xs.length : Int)))
    | none => .fail
  | some (.sl _), some (.view _ _ _ _ xs) => .pure (st.put d (.val true (.int .i64) (xs.length : Int)))
  | some (.sl _), some .nil => .pure (st.put d (.val true (.int .i64) 0))
  | some (.sl _), some (.lenof n) => .pure (st.put d (.val true (.int .i64) (n : Int)))
  | some (.sl _), some .lref => match st.lent with
    | some o => .pure (st.put d (.val true (.int .i64) (o.xs.length : Int)))
    | none => .fail
  | some (.sl _), some (.lview _ _ xs) => .pure (st.put d (.val true (.int .i64) (xs.length : Int)))
  | _, _ => .fail
def evMinMax (st : St) (d : Option Tmp) (mx : Bool) (x y : Operand) : Tr St :=
  match st.opd x, st.opd y with
  | some (.val _ (.int k) a), some (.val _ (.int k') b) =>
    if k = k' then .pure (st.put d (.val true (.int k) (if mx then (if b > a then b else a) else (if b < a then b else a)))) else .fail
  | _, _ => .fail
def evMinMax3 (st : St) (d : Option Tmp) (mx : Bool) (x y z : Operand) : Tr St :=
  match st.opd x, st.opd y, st.opd z with
  | some (.val _ (.int k) a), some (.val _ (.int k') b), some (.val _ (.int k'') c) =>
    if k = k' ∧ k = k'' then .pure (st.put d (.val true (.int k) (if mx then (if c > (if b > a then b else a) then c else (if b > a then b else a)) else (if c < (if b < a then b else a) then c else (if b < a then b else a))))) else .fail
  | _, _, _ => .fail
def evArg1 (st : St) (s : Slot) (t : Ty) : Option t.I :=
  match s, t with
  | .eptr tag 0 [] _ _, .ptr q => (match olook tag st.objs with
    | some o => (match o.xs with
      | [x] => Ty.cast o.e q x
      | _ => none)
    | none => none)
  | .cptr _ u x, .ptr q => Ty.cast u q x
  | s, t => match st.asVal s t with | some (_, y) => some y | none => none
def evArgs (st : St) : (ps : List Ty) → List Operand → Option (Tys.I ps)
  | [], [] => some ()
  | t :: r, o :: os => match st.opd o with
    | some s => match evArg1 st s t, evArgs st r os with
      | some x, some y => some (x, y)
      | _, _ => none
    | none => none
  | _, _ => none
def retSlot (tag : Nat) (st : St) : (r : RTy) → r.I → St × Slot
  | .v t, x => (st, .val true t x)
  | .row eid e, xs => (st.new tag ⟨eid, true, e, xs⟩, .ref tag)
def retSlots (tag : Nat) (st : St) : (rs : List RTy) → RTys.I rs → St × List Slot
  | [], _ => (st, [])
  | [r], x => match retSlot tag st r x with | (st, s) => (st, [s])
  | r :: s :: q, x => match retSlot tag st r x.1 with | (st, u) => (match retSlots (tag + 1) st (s :: q) x.2 with | (st, us) => (st, u :: us))
structure LFun where
  eid : TypeId
  e : Ty
  ps : List Ty
  rs : List RTy
  F : List e.I → Tys.I ps → Option (List e.I × RTys.I rs)
structure BFun where
  eid : TypeId
  e : Ty
  ps : List Ty
  rs : List RTy
  F : e.I → Tys.I ps → Option (e.I × RTys.I rs)
structure HFun where
  eid : TypeId
  p : Ty
  hs : List (Nat × TypeId)
  ps : List Ty
  rs : List RTy
  F : p.I → Tys.I ps → Option (p.I × RTys.I rs)
structure TFun where
  eid : TypeId
  e : Ty
  ps : List Ty
  F : List e.I → Tys.I ps → Option (List e.I)
structure OFun where
  ps : List Ty
  t : Ty
  rs : List RTy
  F : Tys.I ps → Option (t.I × RTys.I rs)
inductive Callee where
  | plain (f : Fun)
  | lent (f : LFun)
  | lbox (f : BFun)
  | hbox (f : HFun)
  | take (f : TFun)
  | old (f : OFun)
def Callee.isPlain : Callee → Bool
  | .plain _ => true
  | .old _ => true
  | _ => false
def evResult (st : St) (d : Option Tmp) : (rs : List RTy) → RTys.I rs → Tr St
  | [.v t], r => match d with | some d => .pure (st.set d (.val true t r)) | none => .fail
  | [.row eid e], r => match d with | some d => .pure ((st.new d ⟨eid, true, e, r⟩).set d (.ref d)) | none => .fail
  | [], _ => .pure (st.put d (.tup []))
  | rs, r => match d with | some d => (match retSlots (1000 * (d + 1)) st rs r with | (st, ss) => .pure (st.set d (.tup ss))) | none => .fail
inductive Lend where
  | own (tag lo n : Nat)
  | lent (lo n : Nat)
  | nil
def splice' {α : Type} (xs : List α) (lo n : Nat) (ys : List α) : List α := xs.take lo ++ ys ++ xs.drop (lo + n)
def St.lend (st : St) (s : Slot) (eid : TypeId) (e : Ty) : Option (Lend × List e.I) :=
  match s with
  | .nil => some (.nil, [])
  | .ref tag => match olook tag st.objs with
    | some o => if Nat.beq o.eid eid then (match Ty.cast (.sl o.e) (.sl e) o.xs with | some xs => some (.own tag 0 xs.length, xs) | none => none) else none
    | none => none
  | .view tag lo _ e' ws => match olook tag st.objs with
    | some o => if Nat.beq o.eid eid && decide (o.e = e') then (match Ty.cast (.sl o.e) (.sl e) o.xs with | some xs => some (.own tag lo ws.length, (xs.drop lo).take ws.length) | none => none) else none
    | none => none
  | .lref => match st.lent with
    | some o => if Nat.beq o.eid eid then (match Ty.cast (.sl o.e) (.sl e) o.xs with | some xs => some (.lent 0 xs.length, xs) | none => none) else none
    | none => none
  | .lview lo e' ws => match st.lent with
    | some o => if Nat.beq o.eid eid && decide (o.e = e') then (match Ty.cast (.sl o.e) (.sl e) o.xs with | some xs => some (.lent lo ws.length, (xs.drop lo).take ws.length) | none => none) else none
    | none => none
  | _ => none
def St.asArg (st : St) (g : Lend) (flat : Bool) (s : Slot) (t : Ty) : Option t.I :=
  if !flat && !t.flat then none else
  match s, g with
  | .ref tag, .own tag' _ _ => if Nat.beq tag tag' then none else (match st.asVal s t with | some (_, y) => some y | none => none)
  | .view tag .., .own tag' _ _ => if Nat.beq tag tag' then none else (match st.asVal s t with | some (_, y) => some y | none => none)
  | .lref, .lent .. => none
  | .lview .., .lent .. => none
  | _, _ => match st.asVal s t with | some (_, y) => some y | none => none
def evArgsL (st : St) (g : Lend) (flat : Bool) : (ps : List Ty) → List Operand → Option (Tys.I ps)
  | [], [] => some ()
  | t :: r, o :: os => match st.opd o with
    | some s => match st.asArg g flat s t, evArgsL st g flat r os with
      | some x, some y => some (x, y)
      | _, _ => none
    | none => none
  | _, _ => none
def St.back (st : St) (g : Lend) (e : Ty) (ys : List e.I) : Option St :=
  match g with
  | .nil => some st
  | .own tag lo n => match olook tag st.objs with
    | some o => (match Ty.cast (.sl e) (.sl o.e) ys with | some ys => some (st.turn tag ⟨o.eid, o.fr, o.e, splice' o.xs lo n ys⟩) | none => none)
    | none => none
  | .lent lo n => match st.lent with
    | some o => (match Ty.cast (.sl e) (.sl o.e) ys with | some ys => some (st.turnL ⟨o.eid, false, o.e, splice' o.xs lo n ys⟩) | none => none)
    | none => none
def St.backAt (st : St) (s : Slot) (g : Lend) (e : Ty) (ys : List e.I) : Option St :=
  match s, g with
  | .ref _, .own tag _ _ => match olook tag st.objs with
    | some o => (match Ty.cast (.sl e) (.sl o.e) ys with | some ys => some (st.turn tag ⟨o.eid, o.fr, o.e, ys⟩) | none => none)
    | none => none
  | .lref, .lent _ _ => match st.lent with
    | some o => (match Ty.cast (.sl e) (.sl o.e) ys with | some ys => some (st.turnL ⟨o.eid, false, o.e, ys⟩) | none => none)
    | none => none
  | _, g => st.back g e ys
def flatPs : List Ty → Bool
  | [] => true
  | t :: r => t.flat && flatPs r
def flatRs : List RTy → Bool
  | [] => true
  | .v t :: r => t.flat && flatRs r
  | _ => false
def St.backH (st : St) (b : Option Nat) (o : Obj) (p : Ty) (hs : List (Nat × TypeId)) (y : p.I) : St :=
  layRows b hs (rowsOf p y 0) (match b with
    | some g => (forgetAll (rowTagsOf st b (holesOf p 0)) st).turn g ⟨o.eid, true, holeT p, [strip p y]⟩
    | none => (forgetAll (rowTagsOf st b (holesOf p 0)) st).turnL ⟨o.eid, false, holeT p, [strip p y]⟩)
def ownFree : Slot → Bool
  | .ref _ => false
  | .view .. => false
  | .lref => false
  | .lview .. => false
  | _ => true
def evArgsF : (ps : List Ty) → List Operand → St → Option (St × Tys.I ps)
  | [], [], st => some (st, ())
  | t :: r, o :: os, st => match st.opd o with
    | some (.ref tag) => if isTk tag then none else (match olook tag st.objs with
      | some ob => (match Ty.cast (.sl ob.e) t ob.xs, evArgsF r os (st.freeze tag ob) with
        | some y, some q => some (q.1, (y, q.2))
        | _, _ => none)
      | none => none)
    | some (.view tag lo fr e xs) => if isTk tag then none else (match olook tag st.objs with
      | some ob => (match Ty.cast (.sl e) t xs, evArgsF r os (st.freeze tag ob) with
        | some y, some q => some (q.1, (y, q.2))
        | _, _ => none)
      | none => none)
    | some s => if ownFree s then (match st.asVal s t, evArgsF r os st with
      | some (_, y), some q => some (q.1, (y, q.2))
      | _, _ => none) else none
    | none => none
  | _, _, _ => none
def evResultO (st : St) (d : Option Tmp) (t : Ty) : (rs : List RTy) → t.I × RTys.I rs → Tr St
  | [], r => match d with | some d => .pure (st.set d (.val false t r.1)) | none => .fail
  | rs, r => match d with | some d => (match retSlots (1000 * (d + 1) + 1) st rs r.2 with | (st, ss) => .pure (st.set d (.tup (.val false t r.1 :: ss)))) | none => .fail
def evCall (T : FuncId → Option Callee) (st : St) (d : Option Tmp) (f : FuncId) (args : List Operand) : Tr St :=
  match T f, args with
  | some (.plain fa), args => match evArgs st fa.ps args with
    | some x => .bnd (fa.F x) fun r => evResult st d fa.rs r
    | none => .fail
  | some (.lbox fa), a :: as => match st.opd a with
    | some (.eptr tag i [] _ _) => match olook tag st.objs with
      | some o => if Nat.beq o.eid fa.eid then .bnd (idx o.xs i) fun el => match Ty.cast o.e fa.e el, evArgsL st (.own tag i.toNat 1) fa.e.flat fa.ps as with
          | some x, some y => .bnd (fa.F x y) fun r => (match Ty.cast fa.e o.e r.1 with | some z => evResult (st.turn tag ⟨o.eid, o.fr, o.e, o.xs.set i.toNat z⟩) d fa.rs r.2 | none => .fail)
          | _, _ => .fail
        else .fail
      | none => .fail
    | some (.leptr i e' [] _) => match st.lent with
      | some o => if Nat.beq o.eid fa.eid && decide (o.e = e') then .bnd (idx o.xs i) fun el => match Ty.cast o.e fa.e el, evArgsL st (.lent i.toNat 1) fa.e.flat fa.ps as with
          | some x, some y => .bnd (fa.F x y) fun r => (match Ty.cast fa.e o.e r.1 with | some z => evResult (st.turnL ⟨o.eid, false, o.e, o.xs.set i.toNat z⟩) d fa.rs r.2 | none => .fail)
          | _, _ => .fail
        else .fail
      | none => .fail
    | _ => .fail
  | some (.hbox fa), a :: as => match st.opd a with
    | some (.eptr tag 0 [] _ _) => match olook tag st.objs with
      | some o => if Nat.beq o.eid fa.eid && flatPs fa.ps && flatRs fa.rs && nodupTags (tag :: rowTagsOf st (some tag) (holesOf fa.p 0)) then (match boxFull st (some tag) o fa.hs false fa.p, evArgs st fa.ps as with
          | some y, some x => .bnd (fa.F y x) fun r => evResult (st.backH (some tag) o fa.p fa.hs r.1) d fa.rs r.2
          | _, _ => .fail)
        else .fail
      | none => .fail
    | some (.leptr 0 e' [] _) => match st.lent with
      | some o => if Nat.beq o.eid fa.eid && decide (o.e = e') && flatPs fa.ps && flatRs fa.rs && nodupTags (rowTagsOf st none (holesOf fa.p 0)) then (match boxFull st none o fa.hs true fa.p, evArgs st fa.ps as with
          | some y, some x => .bnd (fa.F y x) fun r => evResult (st.backH none o fa.p fa.hs r.1) d fa.rs r.2
          | _, _ => .fail)
        else .fail
      | none => .fail
    | _ => .fail
  | some (.lent fa), a :: as => match st.opd a with
    | some s => match st.lend s fa.eid fa.e with
      | some (g, xs) => match evArgsL st g fa.e.flat fa.ps as with
        | some x => .bnd (fa.F xs x) fun r => match st.backAt s g fa.e r.1 with
          | some st => evResult st d fa.rs r.2
          | none => .fail
        | none => .fail
      | none => .fail
    | none => .fail
  | some (.old fa), args => match evArgsF fa.ps args st with
    | some q => .bnd (fa.F q.2) fun r => evResultO q.1 d fa.t fa.rs r
    | none => .fail
  | some (.take fa), a :: as => match st.opd a with
    | some (.ref tag) => match olook tag st.objs with
      | some o => if Nat.beq o.eid fa.eid && (fa.e.flat && (flatPs fa.ps && !isTk tag)) then (match Ty.cast (.sl o.e) (.sl fa.e) o.xs, evArgs st fa.ps as with
          | some xs, some x => .bnd (fa.F xs x) fun r => evResult (st.forget tag) d [.row fa.eid fa.e] r
          | _, _ => .fail)
        else .fail
      | none => .fail
    | some .nil => if fa.e.flat && flatPs fa.ps then (match evArgs st fa.ps as with
        | some x => .bnd (fa.F [] x) fun r => evResult st d [.row fa.eid fa.e] r
        | none => .fail)
      else .fail
    | _ => .fail
  | _, _ => .fail
def evCap1 (st : St) (a : Operand) : Option (Bool × Dat × St) := match st.opd a with
  | some (.val fr (.ptr t) y) => some (fr, ⟨.ptr t, y⟩, st)
  | some (.eptr g 0 [] _ _) => match olook g st.objs with
    | some o => if isTk g then none else (match o.xs with
      | [x] => some (o.fr, ⟨.ptr o.e, x⟩, st.freezeB g o.fr o.e x)
      | _ => none)
    | none => none
  | _ => none
def evCaps : List Operand → St → Option (Bool × Dat × St)
  | [], _ => none
  | [a], st => evCap1 st a
  | a :: b :: r, st => match evCap1 st a with
    | some q => (match evCaps (b :: r) q.2.2 with
      | some q' => some (q.1 && q'.1, ⟨.pair q.2.1.t q'.2.1.t, (q.2.1.x, q'.2.1.x)⟩, q'.2.2)
      | none => none)
    | none => none
def evMakeFunc (st : St) (d : Option Tmp) (fn : Fn) (first caps : Array Operand) : Tr St := match fn, first with
  | .func f, ⟨[]⟩ => match evCaps caps.toList st with
    | some q => .pure (q.2.2.put d (.val q.1 (.fn f q.2.1.t) q.2.1.x))
    | none => .fail
  | _, _ => .fail
def capArgs : (ps : List Ty) → (p : Ty) → p.I → Option (Tys.I ps)
  | [.ptr t], .ptr u, x => match Ty.cast u t x with | some y => some (y, ()) | none => none
  | .ptr t :: r, .pair (.ptr u) b, x => match Ty.cast u t x.1, capArgs r b x.2 with
    | some y, some z => some (y, z)
    | _, _ => none
  | _, _, _ => none
def evArgsC (st : St) (p : Ty) (x : p.I) : (ps : List Ty) → List Operand → Option (Tys.I ps)
  | ps, [] => capArgs ps p x
  | [], _ :: _ => none
  | t :: r, o :: os => match st.opd o with
    | some s => match st.asVal s t, evArgsC st p x r os with
      | some (_, x), some y => some (x, y)
      | _, _ => none
    | none => none
def evCallV (T : FuncId → Option Callee) (st : St) (d : Option Tmp) (f : Operand) (args : List Operand) : Tr St := match st.opd f with
  | some (.val _ (.fn g p) x) => match T g with
    | some (.plain fa) => match evArgsC st p x fa.ps args with
      | some y => .bnd (fa.F y) fun r => evResult st d fa.rs r
      | none => .fail
    | _ => .fail
  | _ => .fail
def evCopy (G : Ctx) (st : St) (d : Option Tmp) (t : TypeId) (x y : Operand) : Tr St :=
  match olook t G.sls, st.opd x, st.opd y with
  | some g, some s, some u =>
    if g.e.flat && Nat.beq g.e.size 1 then
      match st.lend s g.eid g.e, st.asSrc u g.e with
      | some (l, xs), some (_, ys) => (match st.backAt s l g.e (ys.take xs.length ++ xs.drop ys.length) with
        | some st => (match d with | some _ => evResult st d [.v (.int .i64)] ((min ys.length xs.length : Nat) : Int) | none => .pure st)
        | none => .fail)
      | _, _ => .fail
    else .fail
  | _, _, _ => .fail
def evOp (G : Ctx) (T : FuncId → Option Callee) (A : Ann) (o : Oper) (st : St) : Tr St :=
  match o.op with
  | .move x | .assign x => match st.opd x with | some s => .pure (st.put o.dst s) | none => .fail
  | .pick c a b => match st.opd c, st.opd a, st.opd b with
    | some (.lit true), some s, _ => .pure (st.put o.dst s)
    | some (.lit false), _, some s => .pure (st.put o.dst s)
    | some (.val _ .bool c), some s, some u => .br c (.pure (st.put o.dst s)) (.pure (st.put o.dst u))
    | _, _, _ => .fail
  | .binOp op t x y _ => evBin G st o.dst op t x y
  | .unOp op _ x => evUn st o.dst op x
  | .convert t t' x => if inList t' runeTs then (if Nat.beq t t' then evMarks G st o.dst t t' x else evRunes G st o.dst t t' x) else evConv G st o.dst t t' x
  | .indexAddr t x i => if isArr (olook t G.ty) then evIndexAddrA G st o.dst t x i else evIndexAddr G st o.dst t x i
  | .load t a => (match A.holedAt o.dst with | some hs => evLoadW G hs st o.dst t a | none => evLoad G st o.dst t a)
  | .store t a v => evStore G st o.dst t a v
  | .fieldAddr t x f => evField G st o.dst t x f
  | .field t x f => evPart G st o.dst t x f
  | .index t x i => evIndex G st o.dst t x i
  | .makeInterface t x => match inList t G.enos, st.opd x with
    | true, some (.val _ (.int .i64) n) => .pure (st.put o.dst (.val true (.eno t) n))
    | _, _ => .fail
  | .build t parts => (match A.holedAt o.dst with | some hs => evBuildH G hs st o.dst t parts | none => evBuild G st o.dst t parts)
  | .buildSlice t n parts => evBuildSlice G st o.dst t n parts
  | .makeSlice t n c => evMake G st o.dst t n c
  | .slice t x lo hi mx => evSlice G A st o.dst t x lo hi mx
  | .box t x => if isHv (st.opd x) then evBoxH G st o.dst t x else evBox G st o.dst t (some x)
  | .alloc t => evBox G st o.dst t none
  | .nilCheck x => match st.opd x with
    | some (.eptr t i p u s) => .pure (st.put o.dst (.eptr t i p u s))
    | some (.cptr fr t y) => .pure (st.put o.dst (.cptr fr t y))
    | some (.leptr i e p t) => .pure (st.put o.dst (.leptr i e p t))
    | some (.val fr (.ptr t) y) => .pure (st.put o.dst (.cptr fr t y))
    | _ => .fail
  | .extract (.tmp t) i => match st.get t with
    | .tup ss => match ss[i]? with | some s => (match s with | .tup _ => .fail | s => .pure (st.put o.dst s)) | none => .fail
    | _ => .fail
  | .call { callee := .builtin .len, args := ⟨[x]⟩, argTypes := ⟨[t]⟩ } => evLen G st o.dst t x
  | .call { callee := .builtin .max, args := ⟨[x, y]⟩, .. } => evMinMax st o.dst true x y
  | .call { callee := .builtin .min, args := ⟨[x, y]⟩, .. } => evMinMax st o.dst false x y
  | .call { callee := .builtin .max, args := ⟨[x, y, z]⟩, .. } => evMinMax3 st o.dst true x y z
  | .call { callee := .builtin .min, args := ⟨[x, y, z]⟩, .. } => evMinMax3 st o.dst false x y z
  | .call { callee := .builtin .append, args := ⟨[s, x]⟩, argTypes := ⟨[t, t']⟩ } => if Nat.beq t t' then evAppend G st o.dst t s x else .fail
  | .call { callee := .builtin .copy, args := ⟨[x, y]⟩, argTypes := ⟨[t, _]⟩ } => evCopy G st o.dst t x y
  | .call { callee := .value (.func f), args := ⟨as⟩, .. } => evCall T st o.dst f as
  | .call { callee := .value f, args := ⟨as⟩, .. } => evCallV T st o.dst f as
  | .makeFunc fn first caps => evMakeFunc st o.dst fn first caps
  | _ => .fail
def withBool {α : Type} (st : St) (d : Nat) (k : Bool → St → Tr α) : Tr α :=
  match st.get d with
  | .lit b => k b st
  | .val _ .bool c => .br c (k true (st.set d (.lit true))) (k false (st.set d (.lit false)))
  | _ => .fail
def dstOf (ops : List Oper) (j : Nat) : Option Nat := match ops[j]? with | some o => o.dst | none => none
def evOps (G : Ctx) (T : FuncId → Option Callee) (A : Ann) (all : List Oper) : List Oper → St → Tr St
  | [], st => .pure st
  | o :: rest, st =>
    match o.guard with
    | none => (evOp G T A o st).bind (evOps G T A all rest)
    | some (j, want) => match dstOf all j with
      | some d => if (st.get d).isSkip then evOps G T A all rest (st.put o.dst .skip) else withBool st d fun b st =>
        if b == want then (evOp G T A o st).bind (evOps G T A all rest) else evOps G T A all rest (st.put o.dst .skip)
      | none => .fail
inductive Ex where
  | normal
  | exit (id : Nat)
  | ret
@[reducible] def Items.I : List Item → Type
  | [] => Unit
  | [.sv _ _ t] => t.I
  | [.srow _ _ _ _ e] => List e.I
  | [.sbox _ _ _ _ t] => t.I
  | [.slrow _ _ e] => List e.I
  | [.slbox _ _ t] => t.I
  | [.sboxh _ _ _ p _ _] => p.I
  | [.slboxh _ _ p _] => p.I
  | .sv _ _ t :: r => t.I × Items.I r
  | .srow _ _ _ _ e :: r => List e.I × Items.I r
  | .sbox _ _ _ _ t :: r => t.I × Items.I r
  | .sref _ _ _ :: r => Items.I r
  | .sptr _ _ _ _ :: r => Items.I r
  | .slit _ _ :: r => Items.I r
  | .snil _ :: r => Items.I r
  | .slrow _ _ e :: r => List e.I × Items.I r
  | .slbox _ _ t :: r => t.I × Items.I r
  | .slref _ :: r => Items.I r
  | .slptr _ _ :: r => Items.I r
  | .sboxh _ _ _ p _ _ :: r => p.I × Items.I r
  | .slboxh _ _ p _ :: r => p.I × Items.I r
def St.clear (n : Nat) : St := { env := List.replicate n .undef, objs := [] }
def layVal (i : Nat) (fr : Bool) (t : Ty) (x : t.I) (st : St) : St := st.set i (.val fr t x)
def layRow (i tag : Nat) (eid : TypeId) (fr : Bool) (e : Ty) (xs : List e.I) (st : St) : St := (st.new tag ⟨eid, fr, e, xs⟩).set i (.ref tag)
def layBox (i tag : Nat) (eid : TypeId) (fr : Bool) (t : Ty) (x : t.I) (st : St) : St := (st.new tag ⟨eid, fr, t, [x]⟩).set i (.eptr tag 0 [] t none)
def layLRow (i : Nat) (eid : TypeId) (e : Ty) (xs : List e.I) (st : St) : St := (st.newL ⟨eid, false, e, xs⟩).set i .lref
def layLBox (i : Nat) (eid : TypeId) (t : Ty) (x : t.I) (st : St) : St := (st.newL ⟨eid, false, t, [x]⟩).set i (.leptr 0 t [] t)
def layAls (tag : Nat) : List (Nat × Nat) → St → St
  | [], st => st
  | (j, off) :: r, st => layAls tag r (match hlook (some tag) off st.holes with | some q => st.set j (.ref q) | none => st)
def layBoxH (i tag : Nat) (eid : TypeId) (p : Ty) (hs : List (Nat × TypeId)) (als : List (Nat × Nat)) (x : p.I) (st : St) : St := layAls tag als ((layRows (some tag) hs (rowsOf p x 0) (st.new tag ⟨eid, true, holeT p, [strip p x]⟩)).set i (.eptr tag 0 [] (holeT p) none))
def layLBoxH (i : Nat) (eid : TypeId) (p : Ty) (hs : List (Nat × TypeId)) (x : p.I) (st : St) : St := (layRows none hs (rowsOf p x 0) (st.newL ⟨eid, false, holeT p, [strip p x]⟩)).set i (.leptr 0 (holeT p) [] (holeT p))
def layItems : (l : List Item) → Items.I l → St → St
  | [], _, st => st
  | [.sv i fr t], x, st => layVal i fr t x st
  | [.srow i tag eid fr e], x, st => layRow i tag eid fr e x st
  | [.sbox i tag eid fr t], x, st => layBox i tag eid fr t x st
  | [.slrow i eid e], x, st => layLRow i eid e x st
  | [.slbox i eid t], x, st => layLBox i eid t x st
  | [.sboxh i tag eid p hs als], x, st => layBoxH i tag eid p hs als x st
  | [.slboxh i eid p hs], x, st => layLBoxH i eid p hs x st
  | .sv i fr t :: a :: r, x, st => layItems (a :: r) x.2 (layVal i fr t x.1 st)
  | .srow i tag eid fr e :: a :: r, x, st => layItems (a :: r) x.2 (layRow i tag eid fr e x.1 st)
  | .sbox i tag eid fr t :: a :: r, x, st => layItems (a :: r) x.2 (layBox i tag eid fr t x.1 st)
  | .sref j _ tag :: r, x, st => layItems r x (st.set j (.ref tag))
  | .sptr j _ tag t :: r, x, st => layItems r x (st.set j (.eptr tag 0 [] t none))
  | .slit i b :: r, x, st => layItems r x (st.set i (.lit b))
  | .snil i :: r, x, st => layItems r x (st.set i .nil)
  | .slrow i eid e :: a :: r, x, st => layItems (a :: r) x.2 (layLRow i eid e x.1 st)
  | .slbox i eid t :: a :: r, x, st => layItems (a :: r) x.2 (layLBox i eid t x.1 st)
  | .slref j :: r, x, st => layItems r x (st.set j .lref)
  | .slptr j t :: r, x, st => layItems r x (st.set j (.leptr 0 t [] t))
  | .sboxh i tag eid p hs als :: a :: r, x, st => layItems (a :: r) x.2 (layBoxH i tag eid p hs als x.1 st)
  | .slboxh i eid p hs :: a :: r, x, st => layItems (a :: r) x.2 (layLBoxH i eid p hs x.1 st)
def slotVal (st : St) (i : Nat) (fr : Bool) (t : Ty) : Option t.I :=
  match st.get i with
  | .val fr' u x => if !fr || fr' || t.flat then Ty.cast u t x else none
  | .lit b => Ty.cast .bool t b
  | _ => none
def slotRow (st : St) (i : Nat) (eid : TypeId) (fr : Bool) (e : Ty) : Option (List e.I) :=
  match st.get i with
  | .ref g => match olook g st.objs with
    | some o => if Nat.beq o.eid eid && (!fr || o.fr || e.flat) && !isTk g then Ty.cast (.sl o.e) (.sl e) o.xs else none
    | none => none
  | .nil => some []
  | _ => none
def slotBox (st : St) (i : Nat) (eid : TypeId) (fr : Bool) (t : Ty) : Option t.I :=
  match st.get i with
  | .eptr g 0 [] _ _ => match olook g st.objs with
    | some o => (match o.xs with
      | [x] => if Nat.beq o.eid eid && (!fr || o.fr || t.flat) && !isTk g then Ty.cast o.e t x else none
      | _ => none)
    | none => none
  | _ => none
def slotLRow (st : St) (i : Nat) (eid : TypeId) (e : Ty) : Option (List e.I) :=
  match st.get i with
  | .lref => match st.lent with
    | some o => if Nat.beq o.eid eid then Ty.cast (.sl o.e) (.sl e) o.xs else none
    | none => none
  | _ => none
def slotLBox (st : St) (i : Nat) (eid : TypeId) (t : Ty) : Option t.I :=
  match st.get i with
  | .leptr 0 e [] _ => match st.lent with
    | some o => (match o.xs with
      | [x] => if Nat.beq o.eid eid && decide (e = t) then Ty.cast o.e t x else none
      | _ => none)
    | none => none
  | _ => none
def okAls (st : St) (g : Nat) : List (Nat × Nat) → Bool
  | [] => true
  | (j, off) :: r => (match st.get j, hlook (some g) off st.holes with | .ref q, some q' => Nat.beq q q' | _, _ => false) && okAls st g r
def slotBoxH (st : St) (i : Nat) (eid : TypeId) (p : Ty) (hs : List (Nat × TypeId)) (als : List (Nat × Nat)) : Option p.I :=
  match st.get i with
  | .eptr g 0 [] _ _ => match olook g st.objs with
    | some o => if Nat.beq o.eid eid && !isTk g then (if okAls st g als then boxFull st (some g) o hs false p else none) else none
    | none => none
  | _ => none
def slotLBoxH (st : St) (i : Nat) (eid : TypeId) (p : Ty) (hs : List (Nat × TypeId)) : Option p.I :=
  match st.get i with
  | .leptr 0 e [] _ => match st.lent with
    | some o => if Nat.beq o.eid eid && decide (e = holeT p) then boxFull st none o hs true p else none
    | none => none
  | _ => none
def isLref (st : St) (j : Nat) : Bool := match st.get j with | .lref => true | _ => false
def isLptr (st : St) (j : Nat) (t : Ty) : Bool := match st.get j with | .leptr 0 e [] _ => decide (e = t) | _ => false
def sameRef (st : St) (j i : Nat) : Bool :=
  match st.get j, st.get i with
  | .ref g, .ref h => Nat.beq g h
  | .nil, .nil => true
  | .eptr g 0 [] _ _, .eptr h 0 [] _ _ => Nat.beq g h
  | _, _ => false
def isNil (st : St) (i : Nat) : Bool := match st.get i with | .nil => true | _ => false
def isLit (st : St) (i : Nat) (b : Bool) : Bool := match st.get i with | .lit c => b == c | _ => false
def takeItems : (l : List Item) → St → Option (Items.I l)
  | [], _ => some ()
  | [.sv i fr t], st => slotVal st i fr t
  | [.srow i _ eid fr e], st => slotRow st i eid fr e
  | [.sbox i _ eid fr t], st => slotBox st i eid fr t
  | [.slrow i eid e], st => slotLRow st i eid e
  | [.slbox i eid t], st => slotLBox st i eid t
  | [.sboxh i _ eid p hs als], st => slotBoxH st i eid p hs als
  | [.slboxh i eid p hs], st => slotLBoxH st i eid p hs
  | .sv i fr t :: a :: r, st => match slotVal st i fr t, takeItems (a :: r) st with | some x, some y => some (x, y) | _, _ => none
  | .srow i _ eid fr e :: a :: r, st => match slotRow st i eid fr e, takeItems (a :: r) st with | some x, some y => some (x, y) | _, _ => none
  | .sbox i _ eid fr t :: a :: r, st => match slotBox st i eid fr t, takeItems (a :: r) st with | some x, some y => some (x, y) | _, _ => none
  | .sref j i _ :: r, st => if sameRef st j i then takeItems r st else none
  | .sptr j i _ _ :: r, st => if sameRef st j i then takeItems r st else none
  | .slit i b :: r, st => if isLit st i b then takeItems r st else none
  | .snil i :: r, st => if isNil st i then takeItems r st else none
  | .slrow i eid e :: a :: r, st => match slotLRow st i eid e, takeItems (a :: r) st with | some x, some y => some (x, y) | _, _ => none
  | .slbox i eid t :: a :: r, st => match slotLBox st i eid t, takeItems (a :: r) st with | some x, some y => some (x, y) | _, _ => none
  | .slref j :: r, st => if isLref st j then takeItems r st else none
  | .slptr j t :: r, st => if isLptr st j t then takeItems r st else none
  | .sboxh i _ eid p hs als :: a :: r, st => match slotBoxH st i eid p hs als, takeItems (a :: r) st with | some x, some y => some (x, y) | _, _ => none
  | .slboxh i eid p hs :: a :: r, st => match slotLBoxH st i eid p hs, takeItems (a :: r) st with | some x, some y => some (x, y) | _, _ => none
def ownTags (st : St) : List Item → List Nat
  | [] => []
  | .srow i _ _ _ _ :: r => (match st.get i with | .ref g => [g] | _ => []) ++ ownTags st r
  | .sbox i _ _ _ _ :: r => (match st.get i with | .eptr g _ _ _ _ => [g] | _ => []) ++ ownTags st r
  | .sboxh i _ _ p _ _ :: r => (match st.get i with | .eptr g _ _ _ _ => g :: rowTagsOf st (some g) (holesOf p 0) | _ => []) ++ ownTags st r
  | .slboxh _ _ p _ :: r => rowTagsOf st none (holesOf p 0) ++ ownTags st r
  | _ :: r => ownTags st r
def newTags : List Item → List Nat
  | [] => []
  | .srow _ g _ _ _ :: r => g :: newTags r
  | .sbox _ g _ _ _ :: r => g :: newTags r
  | .sboxh _ g _ _ _ _ :: r => g :: newTags r
  | _ :: r => newTags r
structure TagAt where
  i : Nat
  box : Bool
  t : Ty
def noTags (tags : List (Nat × TagAt)) (b : Option Nat) : List (Nat × Ty) → Bool
  | [] => true
  | (k, _) :: r => (match olook (rowTag b k) tags with | none => true | some _ => false) && noTags tags b r
def okItems (tags : List (Nat × TagAt)) : List Item → Bool
  | [] => true
  | .sv _ _ _ :: r => okItems tags r
  | .srow i g _ _ e :: r => (match olook g tags with | none => true | some _ => false) && okItems ((g, ⟨i, false, e⟩) :: tags) r
  | .sbox i g _ _ t :: r => (match olook g tags with | none => true | some _ => false) && okItems ((g, ⟨i, true, t⟩) :: tags) r
  | .sref _ i g :: r => (match olook g tags with | some k => Nat.beq k.i i && !k.box | none => false) && okItems tags r
  | .sptr _ i g t :: r => (match olook g tags with | some k => Nat.beq k.i i && k.box && decide (k.t = t) | none => false) && okItems tags r
  | .slit _ _ :: r => okItems tags r
  | .snil _ :: r => okItems tags r
  | .slrow _ _ _ :: r => okItems tags r
  | .slbox _ _ _ :: r => okItems tags r
  | .slref _ :: r => okItems tags r
  | .slptr _ _ :: r => okItems tags r
  | .sboxh i g _ p _ _ :: r => (match olook g tags with | none => true | some _ => false) && noTags ((g, ⟨i, true, holeT p⟩) :: tags) (some g) (holesOf p 0) && okItems ((g, ⟨i, true, holeT p⟩) :: tags) r
  | .slboxh _ _ p _ :: r => noTags tags none (holesOf p 0) && okItems tags r
def takeAll (l : List Item) (n : Nat) (st : St) : Option (Items.I l) :=
  if Nat.beq st.env.length n && nodupTags (ownTags st l) && okItems [] l then takeItems l st else none
structure LoopAnn where
  head : List Item
  xid : Nat
  out : List Item
  hasRet : Bool
  res : List Item
def rid : Code → Nat
  | .region id _ _ => id
  | .seq a _ => rid a
  | .cond _ a _ => rid a
  | .block _ a => rid a
  | .loop a => rid a
  | .scope a => rid a
  | _ => 0
def quietOp : Op → Bool
  | .move _ | .assign _ | .pick .. | .binOp .. | .unOp .. | .indexAddr .. | .load .. | .fieldAddr .. | .field .. | .nilCheck _ | .extract .. | .index .. | .makeInterface .. => true
  | .convert _ t' _ => !inList t' runeTs
  | .call { callee := .builtin .len, .. } => true
  | .call { callee := .builtin .max, .. } => true
  | .call { callee := .builtin .min, .. } => true
  | _ => false
def isLight (o : Oper) : Bool := match o.op with
  | .load .. => false
  | .convert .. => false
  | .slice .. => true
  | .build .. => true
  | op => quietOp op
def softOp (o : Oper) : Bool := quietOp o.op || isLight o
def isNilC : Operand → Bool
  | .const (.slice none 0 0) => true
  | _ => false
def growOp (Λ : List Nat) (o : Oper) : Bool := match o.op with
  | .build .. | .buildSlice .. | .makeSlice .. | .box .. | .alloc .. => true
  | .call { callee := .builtin .append, args := ⟨[s, _]⟩, .. } => isNilC s
  | .convert t t' _ => inList t' runeTs && !Nat.beq t t'
  | .call { callee := .value (.func f), .. } => !inList f Λ
  | _ => false
def commB (Λ : List Nat) (ops : Array Oper) (x y : Oper) : Bool := x.apart ops y && ((softOp x && softOp y) || isLight x || isLight y || (softOp x && growOp Λ y))
def maskOf (done : List (Nat × Nat)) (o : Oper) : Nat := o.after.toList.foldl (fun m e => if Region.binds .any e then m ||| (2 ^ e.on ||| (match olook e.on done with | some k => k | none => 0)) else m) 0
def walkB (Λ : List Nat) (l : List Oper) (ops : Array Oper) : List Nat → List (Nat × Nat) → Bool
  | [], _ => true
  | i :: r, done => match l[i]? with
    | some o => (o.after.toList.all fun e => !Region.binds .any e || (match olook e.on done with | some _ => true | none => false)) && (match olook i done with | some _ => false | none => true) &&
        (match maskOf done o with
        | m => (done.all fun p => m.testBit p.1 || (match l[p.1]? with | some oj => commB Λ ops oj o | none => false)) && walkB Λ l ops r ((i, m) :: done))
    | none => false
def pairsB (Λ : List Nat) (l : List Oper) (σ : List Nat) : Bool := Region.noSelect l.toArray && Nat.beq σ.length l.length && walkB Λ l l.toArray σ []
def pick (l : List Oper) (σ : List Nat) : List Oper := σ.filterMap fun i => l[i]?
def lapOut (l : LoopAnn) (n : Nat) : Ex × St → Tr (Lap (Items.I l.head) (Items.I l.out))
  | (.normal, st) => match takeAll l.head n st with | some s => .pure (.next s) | none => .fail
  | (.exit i, st) => if Nat.beq i l.xid then (match takeAll l.out n st with | some s => .pure (.done s) | none => .fail) else .fail
  | (.ret, _) => .fail
def lapBoth (l : LoopAnn) (n : Nat) : Ex × St → Tr (Lap (Items.I l.head) (Sum (Items.I l.out) (Items.I l.res)))
  | (.normal, st) => match takeAll l.head n st with | some s => .pure (.next s) | none => .fail
  | (.exit i, st) => if Nat.beq i l.xid then (match takeAll l.out n st with | some s => .pure (.done (.inl s)) | none => .fail) else .fail
  | (.ret, st) => match takeAll l.res n st with | some s => .pure (.done (.inr s)) | none => .fail
def joinOf (A : Ann) : Code → Option (List Item)
  | .region id _ _ => olook id A.joins
  | _ => none
def takeJ (l : List Item) (n : Nat) : Ex × St → Tr (Items.I l)
  | (.normal, st) => match takeAll l n st with | some s => .pure s | none => .fail
  | _ => .fail
def chunks : List Oper → List (Nat × List Item) → List (List Oper × List Item) × List Oper
  | ops, [] => ([], ops)
  | ops, (k, l) :: r => ((ops.take k, l) :: (chunks (ops.drop k) r).1, (chunks (ops.drop k) r).2)
def evCh (G : Ctx) (T : FuncId → Option Callee) (A : Ann) (n : Nat) (all : List Oper) : List (List Oper × List Item) → List Oper → St → Tr St
  | [], last, st => evOps G T A all last st
  | (ops, l) :: r, last, st => .bnd (((evOps G T A all ops st).bind fun st => (match takeAll l n st with | some s => (Tr.pure s : Tr (Items.I l)) | none => .fail)).run) fun s => evCh G T A n all r last (layItems l s (St.clear n))
def cutsOf (A : Ann) (id : Nat) : List (Nat × List Item) := match olook id A.cuts with | some ks => ks | none => []
noncomputable def evCode (G : Ctx) (T : FuncId → Option Callee) (A : Ann) (L : Nat → Option LoopAnn) (n : Nat) : Code → St → Tr (Ex × St)
  | .skip, st => .pure (.normal, st)
  | .label _, st => .pure (.normal, st)
  | .region id ops draw, st =>
    if draw then
      if pairsB A.lents ops.toList (A.order id ops.toList.length) then (evOps G T A ops.toList (pick ops.toList (A.order id ops.toList.length)) st).bind fun st => .pure (.normal, st) else .fail
    else (evCh G T A n ops.toList (chunks ops.toList (cutsOf A id)).1 (chunks ops.toList (cutsOf A id)).2 st).bind fun st => .pure (.normal, st)
  | .seq a b, st => match joinOf A a with
    | some l => .bnd (((evCode G T A L n a st).bind (takeJ l n)).run) fun s => evCode G T A L n b (layItems l s (St.clear n))
    | none => (evCode G T A L n a st).bind fun r => match r with
      | (.normal, st) => evCode G T A L n b st
      | (e, st) => .pure (e, st)
  | .cond (.const (.bool b)) x y, st => (match b with
    | true => evCode G T A L n x st
    | false => evCode G T A L n y st)
  | .cond (.tmp c) x y, st => withBool st c fun b st => match b with
    | true => evCode G T A L n x st
    | false => evCode G T A L n y st
  | .block id c, st => (evCode G T A L n c st).bind fun r => match r with
    | (.exit i, st) => if Nat.beq i id then .pure (.normal, st) else .pure (.exit i, st)
    | (e, st) => .pure (e, st)
  | .loop c, st => match L (rid c) with
    | some l => match takeAll l.head n st with
      | some s0 =>
        if l.hasRet then
          .alt (loopW (fun s => ((evCode G T A L n c (layItems l.head s (St.clear n))).bind (lapBoth l n)).run) s0)
            (fun r => .pure (.exit l.xid, layItems l.out r (St.clear n))) (fun r => .pure (.ret, layItems l.res r (St.clear n)))
        else
          .bnd (loopW (fun s => ((evCode G T A L n c (layItems l.head s (St.clear n))).bind (lapOut l n)).run) s0)
            (fun r => .pure (.exit l.xid, layItems l.out r (St.clear n)))
      | none => .fail
    | none => .fail
  | .exit id, st => .pure (.exit id, st)
  | .ret, st => .pure (.ret, st)
  | _, _ => .fail
def retVal (st : St) (t : Ty) (s : Slot) : Option t.I :=
  match s with
  | .ref _ => none
  | .view .. => none
  | s => match st.asVal s t with | some (fr, x) => if fr || t.flat then some x else none | none => none
def retRow (st : St) (eid : TypeId) (e : Ty) (s : Slot) : Option (List e.I) :=
  match s with
  | .nil => some []
  | .ref tag => match olook tag st.objs with | some o => if Nat.beq o.eid eid && (o.fr || e.flat) && !isTk tag then Ty.cast (.sl o.e) (.sl e) o.xs else none | none => none
  | _ => none
def retOne (st : St) : (r : RTy) → Slot → Option r.I
  | .v t, s => retVal st t s
  | .row eid e, s => retRow st eid e s
def resSlot (G : Ctx) (st : St) : ResultVar → Option Slot
  | .tmp t => some (st.get t)
  | .cell a t => match st.get a, olook t G.ty with
    | .eptr g 0 [] _ _, some u => match olook g st.objs with
      | some o => (match o.xs with
        | [x] => (match Ty.cast o.e u x with | some y => some (.val o.fr u y) | none => none)
        | _ => none)
      | none => none
    | _, _ => none
def retAll (G : Ctx) (st : St) : (rs : List RTy) → List ResultVar → Option (RTys.I rs)
  | [], [] => some ()
  | [r], [v] => match resSlot G st v with | some s => retOne st r s | none => none
  | r :: s :: q, v :: vs => match resSlot G st v with
    | some u => (match retOne st r u, retAll G st (s :: q) vs with | some x, some y => some (x, y) | _, _ => none)
    | none => none
  | _, _ => none
def rowTags (G : Ctx) (st : St) : List RTy → List ResultVar → List Nat
  | .row _ _ :: rs, v :: vs => (match resSlot G st v with | some (.ref g) => [g] | _ => []) ++ rowTags G st rs vs
  | .v _ :: rs, _ :: vs => rowTags G st rs vs
  | _, _ => []
def argSlots : (ps : List Ty) → Tys.I ps → List Slot
  | [], _ => []
  | t :: r, x => .val false t x.1 :: argSlots r x.2
noncomputable def evEnd (G : Ctx) (fn : Func) (rs : List RTy) : Ex × St → Tr (St × RTys.I rs)
  | (.exit _, _) => .fail
  | (_, st) => if nodupTags (rowTags G st rs fn.results.toList) then (match retAll G st rs fn.results.toList with | some y => .pure (st, y) | none => .fail) else .fail
noncomputable def evFunL (G : Ctx) (T : FuncId → Option Callee) (A : Ann) (L : Nat → Option LoopAnn) (fn : Func) (eid : TypeId) (e : Ty) (ps : List Ty) (rs : List RTy) (xs : List e.I) (x : Tys.I ps) : Tr (List e.I × RTys.I rs) :=
  match fn.body with
  | some c => (evCode G T A L fn.ntmps c { env := .lref :: argSlots ps x ++ List.replicate (fn.ntmps - (ps.length + 1)) .undef, objs := [], lent := some ⟨eid, false, e, xs⟩ }).bind fun r => (evEnd G fn rs r).bind fun r => match r.1.lent with
      | some o => (match Ty.cast (.sl o.e) (.sl e) o.xs with | some ys => .pure (ys, r.2) | none => .fail)
      | none => .fail
  | none => .fail
noncomputable def evFunB (G : Ctx) (T : FuncId → Option Callee) (A : Ann) (L : Nat → Option LoopAnn) (fn : Func) (eid : TypeId) (e : Ty) (ps : List Ty) (rs : List RTy) (y : e.I) (x : Tys.I ps) : Tr (e.I × RTys.I rs) :=
  match fn.body with
  | some c => (evCode G T A L fn.ntmps c { env := .leptr 0 e [] e :: argSlots ps x ++ List.replicate (fn.ntmps - (ps.length + 1)) .undef, objs := [], lent := some ⟨eid, false, e, [y]⟩ }).bind fun r => (evEnd G fn rs r).bind fun r => match r.1.lent with
      | some o => (match o.xs with | [z] => (match Ty.cast o.e e z with | some z => .pure (z, r.2) | none => .fail) | _ => .fail)
      | none => .fail
  | none => .fail
noncomputable def evFunH (G : Ctx) (T : FuncId → Option Callee) (A : Ann) (L : Nat → Option LoopAnn) (fn : Func) (eid : TypeId) (p : Ty) (hs : List (Nat × TypeId)) (ps : List Ty) (rs : List RTy) (y : p.I) (x : Tys.I ps) : Tr (p.I × RTys.I rs) :=
  match fn.body with
  | some c => (evCode G T A L fn.ntmps c (layRows none hs (rowsOf p y 0) { env := .leptr 0 (holeT p) [] (holeT p) :: argSlots ps x ++ List.replicate (fn.ntmps - (ps.length + 1)) .undef, objs := [], lent := some ⟨eid, false, holeT p, [strip p y]⟩ })).bind fun r => (evEnd G fn rs r).bind fun r => match r.1.lent with
      | some o => (match boxFull r.1 none o hs true p with | some z => if nodupTags (rowTagsOf r.1 none (holesOf p 0)) then .pure (z, r.2) else .fail | none => .fail)
      | none => .fail
  | none => .fail
def noRs : List RTy → Bool
  | [] => true
  | _ => false
noncomputable def evFunO (G : Ctx) (T : FuncId → Option Callee) (A : Ann) (L : Nat → Option LoopAnn) (fn : Func) (ps : List Ty) (t : Ty) (rs : List RTy) (x : Tys.I ps) : Tr (t.I × RTys.I rs) :=
  match fn.body with
  | some c => (evCode G T A L fn.ntmps c { env := argSlots ps x ++ List.replicate (fn.ntmps - ps.length) .undef, objs := [] }).bind fun r => match r with
      | (.exit _, _) => .fail
      | (_, st) => match fn.results.toList with
        | v :: vs => (match resSlot G st v with
          | some s => if (noRs rs || ownFree s) && nodupTags (rowTags G st rs vs) then (match st.asVal s t, retAll G st rs vs with
            | some (_, y), some z => .pure (y, z)
            | _, _ => .fail) else .fail
          | none => .fail)
        | [] => .fail
  | none => .fail
def takeTag : Nat := 1000000000000000
def retT (st : St) (eid : TypeId) (e : Ty) (s : Slot) : Option (List e.I) :=
  match s with
  | .nil => some []
  | .ref tag => match olook tag st.objs with | some o => if Nat.beq o.eid eid then Ty.cast (.sl o.e) (.sl e) o.xs else none | none => none
  | _ => none
noncomputable def evFunT (G : Ctx) (T : FuncId → Option Callee) (A : Ann) (L : Nat → Option LoopAnn) (fn : Func) (eid : TypeId) (e : Ty) (ps : List Ty) (xs : List e.I) (x : Tys.I ps) : Tr (List e.I) :=
  match fn.body with
  | some c => (evCode G T A L fn.ntmps c ((({ env := .undef :: argSlots ps x ++ List.replicate (fn.ntmps - (ps.length + 1)) .undef, objs := [] } : St).new takeTag ⟨eid, true, e, xs⟩).set 0 (.ref takeTag))).bind fun r => match r with
      | (.exit _, _) => .fail
      | (_, st) => match fn.results.toList with
        | [v] => (match resSlot G st v with | some s => (match retT st eid e s with | some y => .pure y | none => .fail) | none => .fail)
        | _ => .fail
  | none => .fail
def retPtr (st : St) (hs : List (Nat × TypeId)) (p : Ty) : Slot → Option p.I
  | .eptr g 0 [] _ _ => match olook g st.objs with
    | some o => if isTk g then none else boxFull st (some g) o hs false p
    | none => none
  | _ => none
noncomputable def evFunP (G : Ctx) (T : FuncId → Option Callee) (A : Ann) (L : Nat → Option LoopAnn) (fn : Func) (ps : List Ty) (p : Ty) (hs : List (Nat × TypeId)) (x : Tys.I ps) : Tr p.I :=
  match fn.body, fn.results.toList with
  | some c, [.tmp t] => (evCode G T A L fn.ntmps c { env := argSlots ps x ++ List.replicate (fn.ntmps - ps.length) .undef, objs := [] }).bind fun r => match r with
    | (.exit _, _) => .fail
    | (_, st) => (match retPtr st hs p (st.get t) with | some y => .pure y | none => .fail)
  | _, _ => .fail
noncomputable def evFunS (G : Ctx) (T : FuncId → Option Callee) (A : Ann) (L : Nat → Option LoopAnn) (fn : Func) (args : List Slot) (rs : List RTy) : Tr (RTys.I rs) :=
  match fn.body with
  | some c => (evCode G T A L fn.ntmps c { env := args ++ List.replicate (fn.ntmps - args.length) .undef, objs := [] }).bind fun r => match r with
    | (.exit _, _) => .fail
    | (_, st) => if nodupTags (rowTags G st rs fn.results.toList) then (match retAll G st rs fn.results.toList with | some y => .pure y | none => .fail) else .fail
  | none => .fail
structure Twin where
  id : Nat
  p : Nat
  q : Nat
  pre : List Nat
  r1 : List Nat
  r2 : List Nat
  ys : List Nat
def walkX (ex : Nat → Nat → Bool) (Λ : List Nat) (l : List Oper) (ops : Array Oper) : List Nat → List (Nat × Nat) → Bool
  | [], _ => true
  | i :: r, done => match l[i]? with
    | some o => (o.after.toList.all fun e => !Region.binds .any e || (match olook e.on done with | some _ => true | none => false)) && (match olook i done with | some _ => false | none => true) &&
        (match maskOf done o with
        | m => (done.all fun p => m.testBit p.1 || ex p.1 i || (match l[p.1]? with | some oj => commB Λ ops oj o | none => false)) && walkX ex Λ l ops r ((i, m) :: done))
    | none => false
def ancOf (l : List Oper) : List Nat → List (Nat × Nat) → List (Nat × Nat)
  | [], done => done
  | i :: r, done => match l[i]? with | some o => ancOf l r ((i, maskOf done o) :: done) | none => done
def hasAnc (m : List (Nat × Nat)) (i j : Nat) : Bool := match olook i m with | some k => k.testBit j | none => false
def calmOp (o : Oper) : Bool := softOp o || (match o.op with
  | .makeSlice .. => true
  | .call { callee := .builtin .append, .. } => true
  | _ => false)
def Twin.ex1 (t : Twin) (j i : Nat) : Bool := Nat.beq j t.p && Nat.beq i t.q
def Twin.ex2 (t : Twin) (j i : Nat) : Bool := Nat.beq i t.p && inList j t.ys
def twoB (Λ : List Nat) (l : List Oper) (t : Twin) : Bool :=
  Region.noSelect l.toArray && (Nat.beq (t.pre ++ t.r1).length l.length && Nat.beq (t.pre ++ t.r2).length l.length) && (walkX t.ex1 Λ l l.toArray (t.pre ++ t.r1) [] && walkX t.ex2 Λ l l.toArray (t.pre ++ t.r2) []) &&
  (inList t.p t.r1 && inList t.q t.r1 && !Nat.beq t.p t.q) && (t.ys.all fun y => Nat.beq y t.q || hasAnc (ancOf l (t.pre ++ t.r2) []) t.q y) &&
  (t.r1.all fun i => Nat.beq i t.p || Nat.beq i t.q || (match l[i]? with | some o => calmOp o | none => false) || (hasAnc (ancOf l (t.pre ++ t.r1) []) i t.p || hasAnc (ancOf l (t.pre ++ t.r1) []) i t.q))
def hasR (r0 : Nat) : Code → Bool
  | .region id _ draw => draw && Nat.beq id r0
  | .seq a b => hasR r0 a || hasR r0 b
  | .cond _ x y => hasR r0 x || hasR r0 y
  | .block _ c => hasR r0 c
  | _ => false
def onceR (r0 : Nat) : Code → Bool
  | .seq a b => onceR r0 a && onceR r0 b && !(hasR r0 a && hasR r0 b)
  | .cond _ x y => onceR r0 x && onceR r0 y
  | .block _ c => onceR r0 c
  | _ => true
noncomputable def evCodeT (G : Ctx) (T : FuncId → Option Callee) (A : Ann) (L : Nat → Option LoopAnn) (n : Nat) (t : Twin) (b : Bool) : Code → St → Tr (Ex × St)
  | .region id ops draw, st => if draw && Nat.beq id t.id then
      (if twoB A.lents ops.toList t then (evOps G T A ops.toList (pick ops.toList (t.pre ++ (if b then t.r2 else t.r1))) st).bind fun st => .pure (.normal, st) else .fail)
    else evCode G T A L n (.region id ops draw) st
  | .seq x y, st => match joinOf A x with
    | some l => .bnd (((evCodeT G T A L n t b x st).bind (takeJ l n)).run) fun s => evCodeT G T A L n t b y (layItems l s (St.clear n))
    | none => (evCodeT G T A L n t b x st).bind fun r => match r with
      | (.normal, st) => evCodeT G T A L n t b y st
      | (e, st) => .pure (e, st)
  | .cond (.const (.bool c)) x y, st => (match c with
    | true => evCodeT G T A L n t b x st
    | false => evCodeT G T A L n t b y st)
  | .cond (.tmp c) x y, st => withBool st c fun c st => match c with
    | true => evCodeT G T A L n t b x st
    | false => evCodeT G T A L n t b y st
  | .block id c, st => (evCodeT G T A L n t b c st).bind fun r => match r with
    | (.exit i, st) => if Nat.beq i id then .pure (.normal, st) else .pure (.exit i, st)
    | (e, st) => .pure (e, st)
  | c, st => evCode G T A L n c st
noncomputable def evFunW (G : Ctx) (T : FuncId → Option Callee) (A : Ann) (L : Nat → Option LoopAnn) (t : Twin) (b : Bool) (fn : Func) (ps : List Ty) (rs : List RTy) (x : Tys.I ps) : Tr (RTys.I rs) :=
  match fn.body with
  | some c => if onceR t.id c then (evCodeT G T A L fn.ntmps t b c { env := argSlots ps x ++ List.replicate (fn.ntmps - ps.length) .undef, objs := [] }).bind fun r => match r with
    | (.exit _, _) => .fail
    | (_, st) => if nodupTags (rowTags G st rs fn.results.toList) then (match retAll G st rs fn.results.toList with | some y => .pure y | none => .fail) else .fail
    else .fail
  | none => .fail
noncomputable def evFun (G : Ctx) (T : FuncId → Option Callee) (A : Ann) (L : Nat → Option LoopAnn) (fn : Func) (ps : List Ty) (rs : List RTy) (x : Tys.I ps) : Tr (RTys.I rs) :=
  match fn.body with
  | some c => (evCode G T A L fn.ntmps c { env := argSlots ps x ++ List.replicate (fn.ntmps - ps.length) .undef, objs := [] }).bind fun r => match r with
    | (.exit _, _) => .fail
    | (_, st) => if nodupTags (rowTags G st rs fn.results.toList) then (match retAll G st rs fn.results.toList with | some y => .pure y | none => .fail) else .fail
  | none => .fail
end Go.Proofs.YtnldcpanpojeiaaGreatDoor
