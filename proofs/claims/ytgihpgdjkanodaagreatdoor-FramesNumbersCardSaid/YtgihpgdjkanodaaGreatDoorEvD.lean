/-
  Helper text, several in one; no statement is proved here.
-/
import Derived.Below
import Derived.Orders
import Derived.Tactics
import Derived.Laws.Cells
namespace Go.Proofs.YtgihpgdjkanodaaGreatDoor.Ev
noncomputable section
open Go Go.RowKit

inductive Cap where
  | known (c : Nat)
  | opn (e : Nat)
  deriving Inhabited

inductive AV where
  | bool (b : Bool)
  | int (k : IntKind) (n : Int)
  | str (s : List UInt8)
  | nilp
  | ptr (id off : Nat)
  | nilsl
  | sl (id off len : Nat) (c : Cap)
  | esl
  | nsl
  | nilmap
  | mp (id : Nat)
  | func (fn : Fn) (first captured : List AV)
  | nilFunc
  | iface (t : TypeId) (v : AV)
  | nilIface
  | agg (l : List AV)
  | tup (l : List AV)
  deriving Inhabited

def AV.cells : AV → List AV
  | .agg l => l
  | v => [v]

/-- A tree of what lies at numbers. -/
inductive Tr (α : Type) where
  | leaf
  | node (v : Option α) (l r : Tr α)

def Tr.get {α : Type} (t : Tr α) : Nat → Option α :=
  Tr.rec (motive := fun _ => Nat → Option α) (fun _ => none) (fun v _ _ gl gr n => Nat.casesOn n v fun m => bif Nat.beq (m % 2) 0 then gl (m / 2) else gr (m / 2)) t
def Tr.set {α : Type} (f : Nat) : Tr α → Nat → Option α → Tr α :=
  Nat.rec (motive := fun _ => Tr α → Nat → Option α → Tr α) (fun _ _ _ => .leaf)
    (fun _ ih t n b => Tr.casesOn t
      (Nat.casesOn n (.node b .leaf .leaf) fun m => bif Nat.beq (m % 2) 0 then .node none (ih .leaf (m / 2) b) .leaf else .node none .leaf (ih .leaf (m / 2) b))
      (fun v l r => Nat.casesOn n (.node b l r) fun m => bif Nat.beq (m % 2) 0 then .node v (ih l (m / 2) b) r else .node v l (ih r (m / 2) b))) f
theorem Tr.get_leaf {α : Type} (n : Nat) : (Tr.leaf : Tr α).get n = none := rfl
theorem Tr.get_zero {α : Type} (v : Option α) (l r : Tr α) : (Tr.node v l r).get 0 = v := rfl
theorem Tr.get_succ {α : Type} (v : Option α) (l r : Tr α) (m : Nat) : (Tr.node v l r).get (m + 1) = bif Nat.beq (m % 2) 0 then l.get (m / 2) else r.get (m / 2) := rfl
theorem Tr.set_none {α : Type} (t : Tr α) (n : Nat) (b : Option α) : Tr.set 0 t n b = .leaf := rfl
theorem Tr.set_leaf_zero {α : Type} (f : Nat) (b : Option α) : Tr.set (f + 1) .leaf 0 b = .node b .leaf .leaf := rfl
theorem Tr.set_leaf_succ {α : Type} (f m : Nat) (b : Option α) : Tr.set (f + 1) .leaf (m + 1) b = bif Nat.beq (m % 2) 0 then .node none (Tr.set f .leaf (m / 2) b) .leaf else .node none .leaf (Tr.set f .leaf (m / 2) b) := rfl
theorem Tr.set_node_zero {α : Type} (f : Nat) (v : Option α) (l r : Tr α) (b : Option α) : Tr.set (f + 1) (.node v l r) 0 b = .node b l r := rfl
theorem Tr.set_node_succ {α : Type} (f : Nat) (v : Option α) (l r : Tr α) (m : Nat) (b : Option α) : Tr.set (f + 1) (.node v l r) (m + 1) b = bif Nat.beq (m % 2) 0 then .node v (Tr.set f l (m / 2) b) r else .node v l (Tr.set f r (m / 2) b) := rfl
attribute [irreducible] Tr.get Tr.set

inductive Blk where
  | row (cells : List AV) (ty : TypeId) (opn : Bool) (md : Nat)
  | amap (es : List (AV × AV × Nat)) (clock : Nat)

abbrev Hp := Tr Blk

def ofS : Value → Option AV
  | .bool b => some (.bool b)
  | .int k n => some (.int k n)
  | .string s => some (.str s.data.toList)
  | .pointer none => some .nilp
  | .slice none 0 0 => some .nilsl
  | .map none => some .nilmap
  | .nilFunc => some .nilFunc
  | .nilIface => some .nilIface
  | _ => none

def ofL : List Value → Option (List AV)
  | [] => some []
  | v :: l => match ofS v, ofL l with
    | some a, some r => some (a :: r)
    | _, _ => none

def ofV : Value → Option AV
  | .agg cs => (ofL cs.toList).map .agg
  | .tuple cs => (ofL cs.toList).map .tup
  | .iface t v => (ofS v).map (.iface t)
  | v => ofS v

def toS : AV → Option Value
  | .bool b => some (.bool b)
  | .int k n => some (.int k n)
  | .str s => some (.string ⟨⟨s⟩⟩)
  | .nilp => some (.pointer none)
  | .nilsl => some (.slice none 0 0)
  | .nilmap => some (.map none)
  | .nilFunc => some .nilFunc
  | .nilIface => some .nilIface
  | _ => none

def toL : List AV → Option (List Value)
  | [] => some []
  | v :: l => match toS v, toL l with
    | some a, some r => some (a :: r)
    | _, _ => none

def toV : AV → Option Value
  | .agg cs => (toL cs).map fun l => .agg ⟨l⟩
  | .iface t v => (toS v).map (.iface t)
  | v => toS v

def pureOf {α : Type} (P : Program) : Sem α → Option α
  | .pure a => some a
  | .program k => pureOf P (k P)
  | .mark _ k => pureOf P k
  | _ => none

/-- What an operation comes to. -/
inductive Out where
  | val (v : AV) (h : Hp) (nx : Nat)
  | skip (h : Hp) (nx : Nat)
  | enter (f : FuncId) (args : List AV)

def slice? (P : Program) (t : TypeId) : Option TypeId :=
  match P.underlying t with
  | some (.slice e) => some e
  | _ => none

def size? (P : Program) (t : TypeId) : Option Nat := (P.info? t).map (·.size)

def agg? (P : Program) (t : TypeId) : Option Bool :=
  match P.underlying t with
  | some (.struct _) | some (.array _ _) => some true
  | some _ => some false
  | none => none

def zero? (P : Program) (t : TypeId) : Option AV :=
  match P.info? t with
  | some i => match i.zero with
    | some z => ofV z
    | none => none
  | none => none

def fuelT : Nat := 40

def row? (h : Hp) (id : Nat) : Option (List AV) :=
  match h.get id with
  | some (.row cs _ _ _) => some cs
  | _ => none

def loadC (h : Hp) (id off n : Nat) : Option (List AV) :=
  match row? h id with
  | some cs => let l := (cs.drop off).take n
    bif Nat.beq l.length n then some l else none
  | none => none

def loadV (P : Program) (h : Hp) (t : TypeId) (id off : Nat) : Option AV :=
  match agg? P t with
  | some true => match size? P t with
    | some n => (loadC h id off n).map .agg
    | none => none
  | some false => match row? h id with
    | some cs => cs[off]?
    | none => none
  | none => none

def splice {α : Type} : List α → Nat → List α → List α
  | l, 0, vs => vs ++ l.drop vs.length
  | x :: l, n + 1, vs => x :: splice l n vs
  | [], _ + 1, _ => []

/-- One cell holds it. -/
def scal : AV → Bool
  | .agg _ | .tup _ => false
  | _ => true

def storeC (h : Hp) (id off : Nat) (vs : List AV) : Option Hp :=
  match h.get id with
  | some (.row cs ty opn md) =>
    bif (Nat.ble md 1) && Nat.ble (off + vs.length) cs.length && vs.all scal then some (h.set fuelT id (some (.row (splice cs off vs) ty opn md))) else none
  | _ => none

def newR (h : Hp) (nx : Nat) (ty : TypeId) (cs : List AV) (opn : Bool) (md : Nat) : Hp := h.set fuelT nx (some (.row cs ty opn md))

def fillC (place : Nat → Option (Nat × Nat)) (cells : List AV) : List (Nat × AV) → Option (List AV)
  | [] => some cells
  | (i, v) :: rest => match place i with
    | none => none
    | some (off, size) =>
      bif Nat.beq v.cells.length size && Nat.ble (off + size) cells.length then fillC place (splice cells off v.cells) rest else none

/-- The places of a struct's fields. -/
def placesOf (P : Program) : List Field → Option (List (Nat × Nat))
  | [] => some []
  | f :: l => match size? P f.type, placesOf P l with
    | some s, some r => some ((f.offset, s) :: r)
    | _, _ => none

def partC (P : Program) (t : TypeId) (cs : List AV) (off : Nat) : Option AV :=
  match agg? P t, size? P t with
  | some true, some n => let l := (cs.drop off).take n
    bif Nat.beq l.length n then some (.agg l) else none
  | some false, _ => cs[off]?
  | _, _ => none

def intOfAV : AV → Option Int
  | .int _ n => some n
  | _ => none

/-- The equality of two values, where addresses are among them. -/
def eqAV (P : Program) (t : TypeId) (x y : AV) : Option Bool :=
  match P.underlying t, x, y with
  | some (.pointer _), .nilp, .nilp => some true
  | some (.pointer _), .nilp, .ptr .. => some false
  | some (.pointer _), .ptr .., .nilp => some false
  | some (.pointer e), .ptr i o, .ptr j p => match size? P e with
    | some 0 | none => none
    | some _ => bif Nat.beq i j then some (Nat.beq o p) else none
  | some (.interface _), .nilIface, .iface .. => some false
  | some (.interface _), .iface .., .nilIface => some false
  | some (.slice _), .nilsl, .sl .. => some false
  | some (.slice _), .sl .., .nilsl => some false
  | some (.slice _), .nilsl, .nsl => some false
  | some (.slice _), .nsl, .nilsl => some false
  | some (.map ..), .nilmap, .mp _ => some false
  | some (.map ..), .mp _, .nilmap => some false
  | some (.func ..), .nilFunc, .func .. => some false
  | some (.func ..), .func .., .nilFunc => some false
  | _, _, _ => none

/-- The equality of two cells that hold no address. -/
def eqSc : AV → AV → TypeDesc → Option Bool
  | .int k a, .int l b, .int _ => bif decide (k = l) then some (a == b) else none
  | .bool a, .bool b, .bool => some (a == b)
  | _, _, _ => none

def eqFs (P : Program) : List Field → List AV → List AV → Option Bool
  | [], _, _ => some true
  | f :: l, xs, ys => bif f.name == "_" then none else match agg? P f.type, P.underlying f.type, xs[f.offset]?, ys[f.offset]? with
    | some false, some d, some a, some b => match eqSc a b d, eqFs P l xs ys with
      | some e, some r => some (e && r)
      | _, _ => none
    | _, _, _, _ => none

def eqAgg (P : Program) (t : TypeId) (xs ys : List AV) : Option Bool := match P.underlying t with
  | some (.struct fs) => bif P.stoodInHeld t || P.eqGuardType P.depth t then none else eqFs P fs.toList xs ys
  | _ => none

def aggs : Option AV → Option AV → Option (List AV × List AV)
  | some (.agg a), some (.agg b) => some (a, b)
  | _, _ => none

def boolOf (o : Option AV) : Option Bool := match o with | some (.bool b) => some b | _ => none

abbrev Rho := Operand → Option AV

def valsOf (ρ : Rho) : List Operand → Option (List AV)
  | [] => some []
  | x :: l => match ρ x, valsOf ρ l with
    | some a, some r => some (a :: r)
    | _, _ => none

def toO (o : Option AV) : Option Value := match o with
  | some v => toV v
  | none => none

def ground (P : Program) (ρ : Rho) (o : Oper) (h : Hp) (nx : Nat) : Option Out :=
  bif o.op.operands.toList.all fun x => (toO (ρ x)).isSome then
    match pureOf P (execOp (fun x => (toO (ρ x)).getD undef) o) with
    | some (.value v) => match ofV v with
      | some a => some (.val a h nx)
      | none => none
    | _ => none
  else none

def bytesOf : List AV → Option (List UInt8)
  | [] => some []
  | .int .u8 n :: l => (bytesOf l).map (UInt8.ofNat n.toNat :: ·)
  | _ => none

def isU8 (P : Program) (e : TypeId) : Bool := match P.underlying e with | some (.int .u8) => true | _ => false

/-- A bound: what stands there, or what is taken in its place. -/
def bndA (d : Nat) : Option AV → Option Int
  | none => some d
  | some v => intOfAV v

def cutA (s l u m : Nat) (id off : Nat) (c : Cap) : AV := .sl id (bif Nat.beq m l then off else off + l * s) (u - l) c

def okB (l u m c : Int) : Bool := decide (0 ≤ l) && decide (l ≤ u) && decide (u ≤ m) && decide (m ≤ c)

def sliceCase (P : Program) (t : TypeId) (x : AV) (lo hi mx : Option AV) (h : Hp) (nx : Nat) : Option Out :=
  match P.underlying t with
  | some (.array n e) => match x with
    | .ptr id off => match size? P e, bndA 0 lo, bndA n hi, mx with
      | some s, some l, some u, none =>
        bif okB l u n n then some (.val (cutA s l.toNat u.toNat n id off (.known (n - l.toNat))) h nx) else none
      | _, _, _, _ => none
    | _ => none
  | some (.slice e) => match x with
    | .sl id off len (.known c) => match size? P e, bndA 0 lo, bndA len hi, bndA c mx with
      | some s, some l, some u, some m =>
        bif okB l u m c && (mx.isNone || hi.isSome) then some (.val (cutA s l.toNat u.toNat m.toNat id off (.known (m.toNat - l.toNat))) h nx) else none
      | _, _, _, _ => none
    | .sl id off len (.opn k) => match size? P e, bndA 0 lo, bndA len hi, mx with
      | some s, some l, some u, none =>
        bif okB l u len len && (decide (l < len) || decide (l = 0)) && Nat.beq s k then
          some (.val (.sl id (off + l.toNat * s) (u.toNat - l.toNat) (.opn k)) h nx)
        else bif okB l u len len && decide (l = u) then some (.val .nsl h nx) else none
      | some s, some l, some u, some m => match intOfAV m with
        | some m => bif okB l u m len && hi.isSome then
            some (.val (cutA s l.toNat u.toNat m.toNat id off (.known (m.toNat - l.toNat))) h nx) else none
        | none => none
      | _, _, _, _ => none
    | .nilsl => match bndA 0 lo, bndA 0 hi, bndA 0 mx with
      | some l, some u, some m => bif okB l u m 0 && (mx.isNone || hi.isSome) then (match size? P e with | some _ => some (.val .nilsl h nx) | none => none) else none
      | _, _, _ => none
    | _ => none
  | _ => none

/-- An operand that may be missing. -/
def optO (ρ : Rho) : Option Operand → Option (Option AV)
  | none => some none
  | some x => match ρ x with
    | some v => some (some v)
    | none => none

/-- The cells of what is appended, and how many elements these are. -/
def srcOf (h : Hp) (size : Nat) : AV → Option (Nat × List AV)
  | .str s => bif Nat.beq size 1 then some (s.length, s.map fun b => .int .u8 b.toNat) else none
  | .nilsl => some (0, [])
  | .esl => some (0, [])
  | .sl id off len _ => match loadC h id off (len * size) with
    | some l => some (len, l)
    | none => none
  | _ => none

def rep (n : Nat) (l : List AV) : List AV := (List.replicate n l).flatten

def isInt : TypeDesc → Bool
  | .int _ => true
  | _ => false

def appendTo (h : Hp) (nx : Nat) (e size n : Nat) (new : List AV) : AV → Option Out
  | .nilsl => bif Nat.beq n 0 then some (.val .nilsl h nx) else
    some (.val (.sl nx 0 n (.opn size)) (newR h nx e new true 0) (nx + 1))
  | .sl id off len c =>
    match c with
    | .known c => bif Nat.ble (len + n) c then
        match storeC h id (off + len * size) new with
        | some h => some (.val (.sl id off (len + n) (.known c)) h nx)
        | none => none
      else match loadC h id off (len * size) with
        | some old => some (.val (.sl nx 0 (len + n) (.opn size)) (newR h nx e (old ++ new) true 0) (nx + 1))
        | none => none
    | .opn k => bif Nat.beq k size then
        match h.get id with
        | some (.row cs ty _ md) =>
          bif Nat.ble (off + (len + n) * size) cs.length then
            match storeC h id (off + len * size) new with
            | some h => some (.val (.sl id off (len + n) (.opn size)) h nx)
            | none => none
          else match loadC h id off (len * size) with
            | some old => bif Nat.beq md 0 && Nat.beq ty e && new.all scal then
                some (.val (.sl nx 0 (len + n) (.opn size)) (newR (h.set fuelT id none) nx e (old ++ new) true 0) (nx + 1)) else none
            | none => none
        | _ => none
      else none
  | _ => none

def lenA : AV → Nat
  | .sl _ _ n _ => n
  | _ => 0

def appendCase (P : Program) (argTypes : Array TypeId) (s x : AV) (h : Hp) (nx : Nat) : Option Out :=
  match argTypes[0]?, argTypes[1]? with
  | some st, some xt =>
    match P.underlying st, P.underlying xt with
    | some (.slice e), some xd =>
      match P.info? e, zero? P e with
      | some i, some z =>
        match srcOf h i.size x with
        | some (n, new) =>
          bif Nat.ble 1 i.size && Nat.beq z.cells.length i.size && Nat.beq new.length (n * i.size) && Nat.ble i.bytes 1048576 && Nat.ble (lenA s + n) 1048576 && !isInt xd then
            appendTo h nx e i.size n new s else none
        | none => none
      | _, _ => none
    | _, _ => none
  | _, _ => none

def makeSliceCase (P : Program) (t : TypeId) (l c : AV) (h : Hp) (nx : Nat) : Option Out :=
  match slice? P t, intOfAV l, intOfAV c with
  | some e, some l, some c => match P.info? e, zero? P e with
    | some i, some z =>
      bif decide (0 ≤ l) && decide (l ≤ c) && decide (c < 1048576) && decide (i.bytes < 1048576) && Nat.beq z.cells.length i.size then
        some (.val (.sl nx 0 l.toNat (.known c.toNat)) (newR h nx e (rep c.toNat z.cells) false 0) (nx + 1)) else none
    | _, _ => none
  | _, _, _ => none

def fieldOf (P : Program) (t : TypeId) (f : Nat) : Option Field :=
  match P.underlying t with
  | some (.struct fs) => fs[f]?
  | _ => none

def indexAddrCase (P : Program) (t : TypeId) (x i : AV) (h : Hp) (nx : Nat) : Option Out :=
  match P.underlying t, x, intOfAV i with
  | some (.array n e), .ptr id off, some i => match size? P e with
    | some s => bif decide (0 ≤ i) && decide (i < n) then some (.val (.ptr id (off + i.toNat * s)) h nx) else none
    | none => none
  | some (.slice e), .sl id off len _, some i => match size? P e with
    | some s => bif decide (0 ≤ i) && decide (i < len) then some (.val (.ptr id (off + i.toNat * s)) h nx) else none
    | none => none
  | _, _, _ => none

def assertCase (P : Program) (x : AV) (asserted : TypeId) (commaOk : Bool) (h : Hp) (nx : Nat) : Option Out :=
  match P.underlying asserted, x with
  | some (.interface want), .iface t v => match P.info? t with
    | some i => match Instr.missingMethod want i.methods with
      | none => some (.val (bif commaOk then .tup [.iface t v, .bool true] else .iface t v) h nx)
      | some _ => bif commaOk then (zero? P asserted).map fun z => .val (.tup [z, .bool false]) h nx else none
    | none => none
  | some d, .nilIface => bif commaOk then (zero? P asserted).map fun z => .val (.tup [z, .bool false]) h nx else none
  | some d, .iface t v =>
    bif Nat.beq t asserted then some (.val (bif commaOk then .tup [v, .bool true] else v) h nx)
    else bif commaOk then (zero? P asserted).map fun z => .val (.tup [z, .bool false]) h nx else none
  | _, _ => none

def lenS : AV → Option Nat
  | .str s => some s.length
  | .nilsl => some 0
  | .esl => some 0
  | .sl _ _ n _ => some n
  | _ => none

/-- The cells of the first elements. -/
def firstC (h : Hp) (size n : Nat) : AV → Option (List AV)
  | .str s => bif Nat.beq size 1 then some ((s.take n).map fun b => .int .u8 b.toNat) else none
  | .nilsl => some []
  | .esl => bif Nat.beq n 0 then some [] else none
  | .sl id off _ _ => loadC h id off (n * size)
  | _ => none

def copyCase (P : Program) (argTypes : Array TypeId) (d s : AV) (h : Hp) (nx : Nat) : Option Out :=
  match argTypes[0]? with
  | some dt => match slice? P dt with
    | some e => match size? P e, lenS s, lenS d with
      | some size, some ls, some ld =>
        match firstC h size (Nat.min ls ld) s, d with
        | some l, .sl id off _ _ => match storeC h id off l with
          | some h => some (.val (.int .i64 (Nat.min ls ld : Nat)) h nx)
          | none => none
        | some _, .nilsl => some (.val (.int .i64 (Nat.min ls ld : Nat)) h nx)
        | _, _ => none
      | _, _, _ => none
    | none => none
  | none => none

def clearCase (P : Program) (argTypes : Array TypeId) (s : AV) (h : Hp) (nx : Nat) : Option Out :=
  match argTypes[0]?, s with
  | some t, .sl id off n _ => match slice? P t with
    | some e => match zero? P e with
      | some z => bif Nat.ble 1 n && Nat.ble 1 z.cells.length then
          match storeC h id off (rep n z.cells) with
          | some h => some (.val (.tup []) h nx)
          | none => none
        else none
      | none => none
    | none => none
  | _, _ => none

/-- The function behind a method of a dynamic type, where nothing is followed. -/
def methodOf (P : Program) (t : TypeId) (name : String) : Option FuncId :=
  match P.info? t with
  | some i => match i.methods.find? (·.name == name) with
    | some m => bif m.path.isEmpty then
        match m.func, P.underlying t with
        | some (f, true), some (.pointer _) => some f
        | some (_, false), some (.pointer _) => none
        | some (f, false), some _ => some f
        | _, _ => none
      else none
    | none => none
  | none => none

/-- Kinds of keys that are compared at once. -/
def plainK : TypeDesc → Bool
  | .int _ | .string | .bool => true
  | _ => false

def structK : TypeDesc → Bool
  | .struct _ => true
  | _ => false

/-- The equality of two keys. -/
def keyEq (P : Program) (kt : TypeId) (kd : TypeDesc) (a b : Value) : Option Bool :=
  bif plainK kd then Instr.sameNow kd a b else bif structK kd then pureOf P (Op.equal kt a b) else none

/-- The place of a key among a map's entries, and what lies there. -/
def findA (P : Program) (kt : TypeId) (kd : TypeDesc) (kv : Value) : List (AV × AV × Nat) → Nat → Option (Option (Nat × AV))
  | [], _ => some none
  | (k, v, _) :: es, i => match toV k with
    | some ek => match keyEq P kt kd kv ek with
      | some true => some (some (i, v))
      | some false => findA P kt kd kv es (i + 1)
      | none => none
    | none => none

def unitOK : Option Unit → Bool
  | some _ => true
  | none => false

def emptyL : List (AV × AV × Nat) → Bool
  | [] => true
  | _ => false

/-- A map's key is known, and where it lies. -/
def keyed (P : Program) (kt : TypeId) (empty : Bool) (es : List (AV × AV × Nat)) (k : AV) : Option (Option (Nat × AV)) :=
  match toV k, P.underlying kt with
  | some kv, some kd => bif (plainK kd || structK kd) && unitOK (pureOf P (Instr.checkKey empty 10000 kt kv)) then findA P kt kd kv es 0 else none
  | _, _ => none

def lookupCase (P : Program) (t : TypeId) (x k : AV) (ok : Bool) (h : Hp) (nx : Nat) : Option Out :=
  match P.underlying t, x with
  | some (.map kt e), .mp id => match h.get id, zero? P e with
    | some (.amap es _), some z => match keyed P kt (emptyL es) es k with
      | some none => some (.val (bif ok then .tup [z, .bool false] else z) h nx)
      | some (some (_, v)) => some (.val (bif ok then .tup [v, .bool true] else v) h nx)
      | none => none
    | _, _ => none
  | _, _ => none

/-- The entries with another value at a place. -/
def setE (k x : AV) : List (AV × AV × Nat) → Nat → Option (AV × List (AV × AV × Nat))
  | [], _ => none
  | (k0, _, n) :: es, 0 => some (k0, (k, x, n) :: es)
  | e :: es, i + 1 => match setE k x es i with
    | some (k0, es) => some (k0, e :: es)
    | none => none

def sameK (a b : AV) : Bool := match toV a, toV b with
  | some x, some y => Instr.sameBits 10000 x y
  | _, _ => false

def mapUpdateCase (P : Program) (t : TypeId) (m k x : AV) (h : Hp) (nx : Nat) : Option Out :=
  match P.underlying t, m with
  | some (.map kt _), .mp id => match h.get id with
    | some (.amap es clk) => match keyed P kt false es k with
      | some none => some (.skip (h.set fuelT id (some (.amap (es ++ [(k, x, clk)]) (clk + 1)))) nx)
      | some (some (i, _)) => match setE k x es i with
        | some (k0, es') => bif sameK k0 k then some (.skip (h.set fuelT id (some (.amap es' clk))) nx) else none
        | none => none
      | none => none
    | _ => none
  | _, _ => none

/-- The function that is called, and what it is given. -/
def calleeCase (P : Program) (f : AV) (args : List AV) : Option Out :=
  match f with
  | .func (.func f) first captured => some (.enter f (first ++ args ++ captured))
  | .func (.method name) first _ => match first ++ args with
    | .iface t v :: rest => match methodOf P t name with
      | some f => some (.enter f (v :: rest))
      | none => none
    | _ => none
  | .func (.via t path f ptr) first _ => match first ++ args with
    | v :: rest => bif path.isEmpty && !ptr then
        match P.underlying t with
        | some (.pointer _) | none => none
        | some _ => some (.enter f (v :: rest))
      else none
    | _ => none
  | _ => none

/-- An empty slice that is not nil, as an empty one. -/
def weakS : AV → AV
  | .nsl => .esl
  | v => v
def weakL : List AV → List AV
  | [] => []
  | a :: l => weakS a :: weakL l

def builtinCase (P : Program) (ρ : Rho) (b : Builtin) (c : Call) (o : Oper) (args : List AV) (h : Hp) (nx : Nat) : Option Out :=
  match b, args with
  | .append, [s, x] => appendCase P c.argTypes s x h nx
  | .copy, [d, s] => copyCase P c.argTypes d s h nx
  | .clear, [s] => clearCase P c.argTypes s h nx
  | .len, [.sl i o n k] => match c.argTypes[0]? with
    | some t => match slice? P t with
      | some _ => some (.val (.int .i64 n) h nx)
      | none => none
    | none => none
  | .len, [.esl] => match c.argTypes[0]? with
    | some t => match slice? P t with
      | some _ => some (.val (.int .i64 (0 : Nat)) h nx)
      | none => none
    | none => none
  | .cap, [.sl i o n (.known k)] => match c.argTypes[0]? with
    | some t => match slice? P t with
      | some _ => some (.val (.int .i64 k) h nx)
      | none => none
    | none => none
  | _, _ => ground P ρ o h nx

def callCase (P : Program) (ρ : Rho) (c : Call) (o : Oper) (h : Hp) (nx : Nat) : Option Out :=
  match valsOf ρ c.args.toList with
  | none => none
  | some args => match c.callee with
    | .value f => match ρ f with
      | some f => calleeCase P f args
      | none => none
    | .invoke r name => match ρ r with
      | some (.iface t v) => match methodOf P t name with
        | some f => some (.enter f (v :: args))
        | none => none
      | _ => none
    | .builtin b => builtinCase P ρ b c o (weakL args) h nx

def nilCase : AV → Option AV
  | .ptr i o => some (.ptr i o)
  | .iface t v => some (.iface t v)
  | .func (.func f) x y => some (.func (.func f) x y)
  | _ => none

def valO (o : Option AV) (h : Hp) (nx : Nat) : Option Out := match o with
  | some v => some (.val v h nx)
  | none => none

def convCase (P : Program) (ρ : Rho) (o : Oper) (src dst : TypeId) (x : AV) (h : Hp) (nx : Nat) : Option Out :=
  match x with
  | .sl id off len c => match P.underlying src, P.underlying dst with
    | some (.slice e), some .string => bif isU8 P e then
        match loadC h id off len with
        | some l => match bytesOf l with
          | some s => some (.val (.str s) h nx)
          | none => none
        | none => none
      else none
    | _, _ => none
  | .esl => match P.underlying src, P.underlying dst with
    | some (.slice e), some .string => bif isU8 P e then some (.val (.str []) h nx) else none
    | _, _ => none
  | .str s => match P.underlying src, P.underlying dst with
    | some .string, some (.slice e) => bif isU8 P e && Nat.ble s.length 1048576 then some (.val (.sl nx 0 s.length (.opn 1)) (newR h nx e (s.map fun b => .int .u8 b.toNat) true 1) (nx + 1)) else none
    | _, _ => ground P ρ o h nx
  | _ => ground P ρ o h nx

def aop (P : Program) (ρ : Rho) (o : Oper) (h : Hp) (nx : Nat) : Option Out :=
  match o.op with
  | .move x => valO (ρ x) h nx
  | .assign x => valO (ρ x) h nx
  | .pick c a b => match ρ c with
    | some (.bool true) => valO (ρ a) h nx
    | some (.bool false) => valO (ρ b) h nx
    | _ => none
  | .alloc t => match zero? P t with
    | some z => some (.val (.ptr nx 0) (newR h nx t z.cells false 0) (nx + 1))
    | none => none
  | .box t x => match ρ x with
    | some v => some (.val (.ptr nx 0) (newR h nx t v.cells false 0) (nx + 1))
    | none => none
  | .build t parts =>
    match zero? P t, valsOf ρ (parts.toList.map (·.2)) with
    | some z, some vs =>
      match P.underlying t with
      | some (.struct fs) => match placesOf P fs.toList with
        | some ps => match fillC (ps[·]?) z.cells ((parts.toList.map (·.1)).zip vs) with
          | some cs => some (.val (.agg cs) h nx)
          | none => none
        | none => none
      | some (.array _ e) => match size? P e with
        | some s => match fillC (fun i => some (i * s, s)) z.cells ((parts.toList.map (·.1)).zip vs) with
          | some cs => some (.val (.agg cs) h nx)
          | none => none
        | none => none
      | _ => none
    | _, _ => none
  | .buildSlice t len parts =>
    match slice? P t with
    | some e => match size? P e, zero? P e, valsOf ρ (parts.toList.map (·.2)) with
      | some s, some z, some vs =>
        bif Nat.ble (len * s) 65536 && Nat.beq z.cells.length s then
          match fillC (fun i => some (i * s, s)) (rep len z.cells) ((parts.toList.map (·.1)).zip vs) with
          | some cs => some (.val (.sl nx 0 len (.known len)) (newR h nx e cs false 0) (nx + 1))
          | none => none
        else none
      | _, _, _ => none
    | none => none
  | .load t a => match ρ a with
    | some (.ptr id off) => valO (loadV P h t id off) h nx
    | _ => none
  | .store t a x => match ρ a, ρ x, size? P t with
    | some (.ptr id off), some v, some s => bif Nat.beq v.cells.length s then
        match storeC h id off v.cells with
        | some h => some (.skip h nx)
        | none => none
      else none
    | _, _, _ => none
  | .nilCheck x => match ρ x with
    | some v => valO (nilCase v) h nx
    | none => none
  | .binOp op t x y _ => match aggs (ρ x) (ρ y) with
    | some (a, b) => match eqAgg P t a b with
      | some r => match op with
        | .eql => some (.val (.bool r) h nx)
        | .neq => some (.val (.bool !r) h nx)
        | _ => none
      | none => ground P ρ o h nx
    | none => match ground P ρ o h nx with
      | some r => some r
      | none => match ρ x, ρ y with
        | some a, some b => match eqAV P t a b with
          | some r => match op with
            | .eql => some (.val (.bool r) h nx)
            | .neq => some (.val (.bool !r) h nx)
            | _ => none
          | none => none
        | _, _ => none
  | .convert src dst x => match ρ x with
    | some v => convCase P ρ o src dst (weakS v) h nx
    | none => none
  | .makeInterface t x => match P.underlying t, ρ x with
    | some (.interface _), _ => none
    | some _, some v => some (.val (.iface t v) h nx)
    | _, _ => none
  | .makeFunc fn first captured => match valsOf ρ first.toList, valsOf ρ captured.toList with
    | some a, some b => some (.val (.func fn a b) h nx)
    | _, _ => none
  | .makeMap _ none => some (.val (.mp nx) (h.set fuelT nx (some (.amap [] 0))) (nx + 1))
  | .makeSlice t l c => match ρ l, ρ c with
    | some l, some c => makeSliceCase P t l c h nx
    | _, _ => none
  | .slice t x lo hi mx => match ρ x with
    | some (.str _) => ground P ρ o h nx
    | some v => match optO ρ lo, optO ρ hi, optO ρ mx with
      | some a, some b, some c => sliceCase P t v a b c h nx
      | _, _, _ => none
    | none => none
  | .fieldAddr t x f => match fieldOf P t f, ρ x with
    | some f, some (.ptr id off) => match size? P f.type with
      | some s => bif Nat.beq s 0 then none else some (.val (.ptr id (off + f.offset)) h nx)
      | none => none
    | _, _ => none
  | .field t x f => match fieldOf P t f, ρ x with
    | some f, some (.agg cs) => valO (partC P f.type cs f.offset) h nx
    | _, _ => none
  | .indexAddr t x i => match ρ x, ρ i with
    | some a, some b => indexAddrCase P t a b h nx
    | _, _ => none
  | .index t x i => match ρ x, ρ i with
    | some (.agg cs), some b => match P.underlying t, intOfAV b with
      | some (.array n e), some i => match size? P e with
        | some s => bif decide (0 ≤ i) && decide (i < n) then valO (partC P e cs (i.toNat * s)) h nx else none
        | none => none
      | _, _ => none
    | _, _ => ground P ρ o h nx
  | .mapUpdate t m k x => match ρ m, ρ k, ρ x with
    | some m, some k, some x => mapUpdateCase P t m k x h nx
    | _, _, _ => none
  | .typeAssert x _ asserted ok => match ρ x with
    | some v => assertCase P v asserted ok h nx
    | none => none
  | .extract t i => match ρ t with
    | some (.tup l) => valO l[i]? h nx
    | _ => none
  | .lookup t x k ok => match ρ x, ρ k with
    | some m, some k => lookupCase P t m k ok h nx
    | _, _ => none
  | .call c => callCase P ρ c o h nx
  | .unOp .. => ground P ρ o h nx
  | _ => none

end
end Go.Proofs.YtgihpgdjkanodaaGreatDoor.Ev

namespace Go.Proofs.YtgihpgdjkanodaaGreatDoor.Ev
noncomputable section
open Go Go.RowKit

/-- Where a block of ours lies: the block, the place of its first cell, the number of the block's cells. -/
abbrev Sg := Nat → Option (Nat × Nat × Nat)

mutual
def V (σ : Sg) : AV → Value → Prop
  | .bool b, v => v = .bool b
  | .int k n, v => v = .int k n
  | .str s, v => v = .string ⟨⟨s⟩⟩
  | .nilp, v => v = .pointer none
  | .ptr id off, v => ∃ b o n, σ id = some (b, o, n) ∧ v = .pointer (some ⟨b, o + off, none⟩)
  | .nilsl, v => v = .slice none 0 0
  | .sl id off len c, v => ∃ b o n, σ id = some (b, o, n) ∧ ∃ k, v = .slice (some ⟨b, o + off, none⟩) len k ∧
      (match c with
        | .known c => k = c
        | .opn e => len ≤ k ∧ o + off + k * e = n)
  | .esl, v => ∃ a k, v = .slice a 0 k
  | .nsl, v => ∃ a k, v = .slice (some a) 0 k
  | .nilmap, v => v = .map none
  | .mp id, v => ∃ b o n, σ id = some (b, o, n) ∧ v = .map (some b)
  | .func fn x y, v => ∃ x' y', VL σ x x' ∧ VL σ y y' ∧ v = .func fn ⟨x'⟩ ⟨y'⟩
  | .nilFunc, v => v = .nilFunc
  | .iface t x, v => ∃ y, V σ x y ∧ v = .iface t y
  | .nilIface, v => v = .nilIface
  | .agg l, v => ∃ l', VL σ l l' ∧ v = .agg ⟨l'⟩
  | .tup l, v => ∃ l', VL σ l l' ∧ v = .tuple ⟨l'⟩
def VL (σ : Sg) : List AV → List Value → Prop
  | [], vs => vs = []
  | x :: l, vs => ∃ y ys, vs = y :: ys ∧ V σ x y ∧ VL σ l ys
end

def Le (σ τ : Sg) : Prop := ∀ id p, σ id = some p → τ id = some p
theorem Le.refl (σ : Sg) : Le σ σ := fun _ _ h => h
theorem Le.trans {σ τ ρ : Sg} (h : Le σ τ) (k : Le τ ρ) : Le σ ρ := fun _ _ x => k _ _ (h _ _ x)

mutual
theorem V.mono {σ τ : Sg} (h : Le σ τ) : ∀ (a : AV) (v : Value), V σ a v → V τ a v
  | .bool _, _, x => x
  | .int _ _, _, x => x
  | .str _, _, x => x
  | .nilp, _, x => x
  | .ptr _ _, _, ⟨b, o, n, x, y⟩ => ⟨b, o, n, h _ _ x, y⟩
  | .nilsl, _, x => x
  | .sl _ _ _ _, _, ⟨b, o, n, x, y⟩ => ⟨b, o, n, h _ _ x, y⟩
  | .esl, _, x => x
  | .nsl, _, x => x
  | .nilmap, _, x => x
  | .mp _, _, ⟨b, o, n, x, y⟩ => ⟨b, o, n, h _ _ x, y⟩
  | .func _ l m, _, ⟨x, y, p, q, r⟩ => ⟨x, y, VL.mono h l _ p, VL.mono h m _ q, r⟩
  | .nilFunc, _, x => x
  | .iface _ a, _, ⟨y, p, q⟩ => ⟨y, V.mono h a _ p, q⟩
  | .nilIface, _, x => x
  | .agg l, _, ⟨x, p, q⟩ => ⟨x, VL.mono h l _ p, q⟩
  | .tup l, _, ⟨x, p, q⟩ => ⟨x, VL.mono h l _ p, q⟩
theorem VL.mono {σ τ : Sg} (h : Le σ τ) : ∀ (l : List AV) (vs : List Value), VL σ l vs → VL τ l vs
  | [], _, x => x
  | a :: l, _, ⟨y, ys, p, q, r⟩ => ⟨y, ys, p, V.mono h a _ q, VL.mono h l _ r⟩
end

theorem VL.nil (σ : Sg) : VL σ [] [] := rfl
theorem VL.cons {σ : Sg} {a : AV} {v : Value} {l : List AV} {vs : List Value} (h : V σ a v) (k : VL σ l vs) : VL σ (a :: l) (v :: vs) := ⟨v, vs, rfl, h, k⟩

theorem VL_iff {σ : Sg} : ∀ (l : List AV) (vs : List Value), VL σ l vs ↔ l.length = vs.length ∧ ∀ (i : Nat) (a : AV) (v : Value), l[i]? = some a → vs[i]? = some v → V σ a v
  | [], vs => by
    constructor
    · rintro rfl; exact ⟨rfl, fun i a v h => by simp at h⟩
    · rintro ⟨h, _⟩; exact List.length_eq_zero_iff.1 h.symm
  | x :: l, vs => by
    constructor
    · rintro ⟨y, ys, rfl, hx, hl⟩
      obtain ⟨h1, h2⟩ := (VL_iff l ys).1 hl
      refine ⟨by simp [h1], fun i a v ha hv => ?_⟩
      cases i with
      | zero => simp at ha hv; subst ha; subst hv; exact hx
      | succ i => simp at ha hv; exact h2 i a v ha hv
    · rintro ⟨h1, h2⟩
      cases vs with
      | nil => simp at h1
      | cons y ys =>
        exact ⟨y, ys, rfl, h2 0 x y rfl rfl, (VL_iff l ys).2 ⟨by simpa using h1, fun i a v ha hv => h2 (i + 1) a v (by simpa using ha) (by simpa using hv)⟩⟩

theorem VL.length {σ : Sg} {l : List AV} {vs : List Value} (h : VL σ l vs) : l.length = vs.length := ((VL_iff l vs).1 h).1

theorem VL.get {σ : Sg} {l : List AV} {vs : List Value} (h : VL σ l vs) {i : Nat} {a : AV} (ha : l[i]? = some a) : ∃ v, vs[i]? = some v ∧ V σ a v := by
  obtain ⟨h1, h2⟩ := (VL_iff l vs).1 h
  have hi : i < vs.length := by
    rw [← h1]
    rcases Nat.lt_or_ge i l.length with x | x
    · exact x
    · rw [List.getElem?_eq_none x] at ha; simp at ha
  exact ⟨vs[i], by simp [hi], h2 i a _ ha (by simp [hi])⟩

theorem VL.append {σ : Sg} : ∀ {l m : List AV} {vs ws : List Value}, VL σ l vs → VL σ m ws → VL σ (l ++ m) (vs ++ ws)
  | [], _, _, _, h, k => by obtain rfl := h; exact k
  | _ :: _, _, _, _, ⟨_, _, p, q, r⟩, k => by subst p; exact ⟨_, _, rfl, q, VL.append r k⟩

theorem VL.take {σ : Sg} : ∀ {l : List AV} {vs : List Value} (n : Nat), VL σ l vs → VL σ (l.take n) (vs.take n)
  | [], _, n, h => by obtain rfl := h; simp [VL]
  | _ :: _, _, 0, _ => by simp [VL]
  | _ :: _, _, n + 1, ⟨_, _, p, q, r⟩ => by subst p; exact ⟨_, _, rfl, q, VL.take n r⟩

theorem VL.drop {σ : Sg} : ∀ {l : List AV} {vs : List Value} (n : Nat), VL σ l vs → VL σ (l.drop n) (vs.drop n)
  | [], _, n, h => by obtain rfl := h; simp [VL]
  | _ :: _, _, 0, h => h
  | _ :: _, _, n + 1, ⟨_, _, p, q, r⟩ => by subst p; exact VL.drop n r

theorem VL.rep {σ : Sg} {l : List AV} {vs : List Value} (h : VL σ l vs) : ∀ n : Nat, VL σ (Ev.rep n l) (List.replicate n vs).flatten
  | 0 => by simp [Ev.rep, VL]
  | n + 1 => by
    have := VL.append h (VL.rep h n)
    simpa [Ev.rep, List.replicate_succ] using this

theorem V.cells {σ : Sg} {a : AV} {v : Value} (h : V σ a v) : VL σ a.cells v.cells.toList := by
  cases a with
  | agg l => obtain ⟨l', p, rfl⟩ := h; exact p
  | sl i off len c => obtain ⟨b, o, n, _, k, rfl, _⟩ := id h; exact ⟨_, [], rfl, h, rfl⟩
  | ptr => obtain ⟨b, o, n, _, rfl⟩ := id h; exact ⟨_, [], rfl, h, rfl⟩
  | esl => obtain ⟨b, o, rfl⟩ := id h; exact ⟨_, [], rfl, h, rfl⟩
  | nsl => obtain ⟨b, o, rfl⟩ := id h; exact ⟨_, [], rfl, h, rfl⟩
  | mp => obtain ⟨b, o, n, _, rfl⟩ := id h; exact ⟨_, [], rfl, h, rfl⟩
  | func => obtain ⟨x, y, _, _, rfl⟩ := id h; exact ⟨_, [], rfl, h, rfl⟩
  | iface => obtain ⟨y, _, rfl⟩ := id h; exact ⟨_, [], rfl, h, rfl⟩
  | tup => obtain ⟨y, _, rfl⟩ := id h; exact ⟨_, [], rfl, h, rfl⟩
  | _ => obtain rfl := id h; exact ⟨_, [], rfl, h, rfl⟩

theorem V.weak {σ : Sg} {a : AV} {v : Value} (h : V σ a v) : V σ (weakS a) v := by
  unfold weakS
  split
  · obtain ⟨a, k, rfl⟩ := h; exact ⟨_, _, rfl⟩
  · exact h
theorem VL.weak {σ : Sg} : ∀ {l : List AV} {vs : List Value}, VL σ l vs → VL σ (weakL l) vs
  | [], _, h => h
  | _ :: _, _, ⟨y, ys, e, h1, h2⟩ => ⟨y, ys, e, h1.weak, VL.weak h2⟩

theorem ofS_ok {σ : Sg} {v : Value} {a : AV} (h : ofS v = some a) : V σ a v := by
  unfold ofS at h
  split at h <;> simp at h <;> subst h <;> simp [V]

theorem ofL_ok {σ : Sg} : ∀ {vs : List Value} {l : List AV}, ofL vs = some l → VL σ l vs
  | [], l, h => by simp [ofL] at h; subst h; rfl
  | v :: vs, l, h => by
    simp only [ofL] at h
    split at h
    · rename_i a r ha hr
      simp at h; subst h
      exact VL.cons (ofS_ok ha) (ofL_ok hr)
    · simp at h

theorem ofV_ok {σ : Sg} {v : Value} {a : AV} (h : ofV v = some a) : V σ a v := by
  unfold ofV at h
  split at h
  · rename_i cs
    cases hc : ofL cs.toList with
    | none => simp [hc] at h
    | some l => simp [hc] at h; subst h; exact ⟨cs.toList, ofL_ok hc, rfl⟩
  · rename_i cs
    cases hc : ofL cs.toList with
    | none => simp [hc] at h
    | some l => simp [hc] at h; subst h; exact ⟨cs.toList, ofL_ok hc, rfl⟩
  · rename_i t v
    cases hc : ofS v with
    | none => simp [hc] at h
    | some l => simp [hc] at h; subst h; exact ⟨v, ofS_ok hc, rfl⟩
  · exact ofS_ok h

theorem toS_ok {σ : Sg} {v u : Value} {a : AV} (h : toS a = some u) (k : V σ a v) : v = u := by
  unfold toS at h
  split at h <;> simp at h <;> subst h <;> simp [V] at k <;> exact k

theorem toL_ok {σ : Sg} : ∀ {l : List AV} {us vs : List Value}, toL l = some us → VL σ l vs → vs = us
  | [], us, vs, h, k => by simp [toL] at h; subst h; exact k
  | a :: l, us, vs, h, ⟨y, ys, p, q, r⟩ => by
    simp only [toL] at h
    split at h
    · rename_i u r' ha hr
      simp at h; subst h; subst p
      rw [toS_ok ha q, toL_ok hr r]
    · simp at h

theorem toV_ok {σ : Sg} {v u : Value} {a : AV} (h : toV a = some u) (k : V σ a v) : v = u := by
  unfold toV at h
  split at h
  · rename_i cs
    cases hc : toL cs with
    | none => simp [hc] at h
    | some l => simp [hc] at h; subst h; obtain ⟨l', p, rfl⟩ := k; rw [toL_ok hc p]
  · rename_i t x
    cases hc : toS x with
    | none => simp [hc] at h
    | some l => simp [hc] at h; subst h; obtain ⟨y, p, rfl⟩ := k; rw [toS_ok hc p]
  · exact toS_ok h k

theorem pureOf_ok {α : Type} {P : Program} : ∀ {s : Sem α} {a : α} (w : World), pureOf P s = some a → s.run P w = .ok a w
  | .pure _, _, _, h => by simp [pureOf] at h; subst h; rfl
  | .program k, _, w, h => by simp only [pureOf] at h; simp only [Sem.run]; exact pureOf_ok w h
  | .mark _ k, _, w, h => by simp only [pureOf] at h; simp only [Sem.run]; exact pureOf_ok w h
  | .load .., _, _, h => by simp [pureOf] at h
  | .store .., _, _, h => by simp [pureOf] at h
  | .new .., _, _, h => by simp [pureOf] at h
  | .shape .., _, _, h => by simp [pureOf] at h
  | .freeze .., _, _, h => by simp [pureOf] at h
  | .frozen .., _, _, h => by simp [pureOf] at h
  | .getObj .., _, _, h => by simp [pureOf] at h
  | .setObj .., _, _, h => by simp [pureOf] at h
  | .choose .., _, _, h => by simp [pureOf] at h
  | .sys .., _, _, h => by simp [pureOf] at h
  | .halt .., _, _, h => by simp [pureOf] at h

theorem Tr.get_set {α : Type} : ∀ (f : Nat) (t : Tr α) (n : Nat) (v : Option α) (m : Nat) (x : α), (Tr.set f t n v).get m = some x → (m = n ∧ v = some x) ∨ (m ≠ n ∧ t.get m = some x)
  | 0, t, n, v, m, x, h => by simp [Tr.set_none, Tr.set_leaf_zero, Tr.set_leaf_succ, Tr.set_node_zero, Tr.set_node_succ, Tr.get_leaf, Tr.get_zero, Tr.get_succ] at h
  | f + 1, .leaf, 0, v, m, x, h => by
    cases m with
    | zero => simp [Tr.set_none, Tr.set_leaf_zero, Tr.set_leaf_succ, Tr.set_node_zero, Tr.set_node_succ, Tr.get_leaf, Tr.get_zero, Tr.get_succ] at h; exact .inl ⟨rfl, h⟩
    | succ m => simp [Tr.set_none, Tr.set_leaf_zero, Tr.set_leaf_succ, Tr.set_node_zero, Tr.set_node_succ, Tr.get_leaf, Tr.get_zero, Tr.get_succ] at h
  | f + 1, .node u l r, 0, v, m, x, h => by
    cases m with
    | zero => simp [Tr.set_none, Tr.set_leaf_zero, Tr.set_leaf_succ, Tr.set_node_zero, Tr.set_node_succ, Tr.get_leaf, Tr.get_zero, Tr.get_succ] at h; exact .inl ⟨rfl, h⟩
    | succ m => simp only [Tr.set_none, Tr.set_leaf_zero, Tr.set_leaf_succ, Tr.set_node_zero, Tr.set_node_succ, Tr.get_leaf, Tr.get_zero, Tr.get_succ] at h; exact .inr ⟨by omega, by simpa only [Tr.get_leaf, Tr.get_zero, Tr.get_succ] using h⟩
  | f + 1, .leaf, n + 1, v, m, x, h => by
    simp only [Tr.set_none, Tr.set_leaf_zero, Tr.set_leaf_succ, Tr.set_node_zero, Tr.set_node_succ] at h
    cases hn : Nat.beq (n % 2) 0 <;> simp only [hn, cond_true, cond_false] at h
    all_goals
      cases m with
      | zero => simp [Tr.get_leaf, Tr.get_zero, Tr.get_succ] at h
      | succ m =>
        simp only [Tr.get_leaf, Tr.get_zero, Tr.get_succ] at h
        cases hm : Nat.beq (m % 2) 0 <;> simp only [hm, cond_true, cond_false] at h
        all_goals first
          | (simp [Tr.get_leaf, Tr.get_zero, Tr.get_succ] at h; done)
          | (rcases Tr.get_set f _ _ _ _ _ h with ⟨e, k⟩ | ⟨e, k⟩
             · refine .inl ⟨?_, k⟩
               first
                 | (have a := Nat.eq_of_beq_eq_true hn; have b := Nat.eq_of_beq_eq_true hm; omega)
                 | (have a := Nat.ne_of_beq_eq_false hn; have b := Nat.ne_of_beq_eq_false hm; omega)
             · simp [Tr.get_leaf, Tr.get_zero, Tr.get_succ] at k)
  | f + 1, .node u l r, n + 1, v, m, x, h => by
    simp only [Tr.set_none, Tr.set_leaf_zero, Tr.set_leaf_succ, Tr.set_node_zero, Tr.set_node_succ] at h
    cases hn : Nat.beq (n % 2) 0 <;> simp only [hn, cond_true, cond_false] at h
    all_goals
      cases m with
      | zero => simp only [Tr.get_leaf, Tr.get_zero, Tr.get_succ] at h; exact .inr ⟨by omega, by simpa only [Tr.get_leaf, Tr.get_zero, Tr.get_succ] using h⟩
      | succ m =>
        simp only [Tr.get_leaf, Tr.get_zero, Tr.get_succ] at h
        cases hm : Nat.beq (m % 2) 0 <;> simp only [hm, cond_true, cond_false] at h
        all_goals first
          | (rcases Tr.get_set f _ _ _ _ _ h with ⟨e, k⟩ | ⟨e, k⟩
             · refine .inl ⟨?_, k⟩
               first
                 | (have a := Nat.eq_of_beq_eq_true hn; have b := Nat.eq_of_beq_eq_true hm; omega)
                 | (have a := Nat.ne_of_beq_eq_false hn; have b := Nat.ne_of_beq_eq_false hm; omega)
             · refine .inr ⟨by omega, ?_⟩
               simp only [Tr.get_leaf, Tr.get_zero, Tr.get_succ, hm, cond_true, cond_false]; exact k)
          | (refine .inr ⟨?_, ?_⟩
             · first
                 | (have a := Nat.eq_of_beq_eq_true hn; have b := Nat.ne_of_beq_eq_false hm; omega)
                 | (have a := Nat.ne_of_beq_eq_false hn; have b := Nat.eq_of_beq_eq_true hm; omega)
             · simp only [Tr.get_leaf, Tr.get_zero, Tr.get_succ, hm, cond_true, cond_false]; exact h)
end
end Go.Proofs.YtgihpgdjkanodaaGreatDoor.Ev

namespace Go.Proofs.YtgihpgdjkanodaaGreatDoor.Ev
noncomputable section
open Go Go.RowKit

def free (fz : Nat × Nat) (n : Nat) : Prop := ∀ i, i < n → ¬ (fz.1 ≤ i ∧ i < fz.2)

def MR (σ : Sg) (es : List (AV × AV × Nat)) (l : List MapEntry) : Prop :=
  es.length = l.length ∧ ∀ (i : Nat) (k v : AV) (n : Nat) (e : MapEntry), es[i]? = some (k, v, n) → l[i]? = some e → V σ k e.key ∧ V σ v e.val ∧ e.born = n

def BR (σ : Sg) (w : World) (id : Nat) : Blk → Prop
  | .row cs ty opn md => ∃ b o n cells fz tv, σ id = some (b, o, n) ∧ w.heap[b]? = some (.cells cells tv fz) ∧ cells.size = n ∧ o + cs.length ≤ n ∧
      (opn = false → o + cs.length = n) ∧ VL σ cs ((cells.toList.drop o).take cs.length) ∧ (md ≤ 1 → free fz n) ∧ (md = 0 → fz = (0, 0) ∧ tv = ty)
  | .amap es clock => ∃ b o n ents, σ id = some (b, o, n) ∧ w.heap[b]? = some (.map ents clock) ∧ MR σ es ents.toList

def wr : Blk → Bool
  | .row _ _ _ md => Nat.ble md 1
  | .amap .. => true

structure HR (σ : Sg) (h : Hp) (w : World) : Prop where
  has : ∀ id blk, h.get id = some blk → BR σ w id blk
  inj : ∀ i j bi bj p q, h.get i = some bi → h.get j = some bj → σ i = some p → σ j = some q → p.1 = q.1 → (wr bi = true ∨ wr bj = true) → i = j

def owned (σ : Sg) (h : Hp) (b : Nat) : Prop := ∃ id blk p, h.get id = some blk ∧ wr blk = true ∧ σ id = some p ∧ p.1 = b

def lives (σ : Sg) (h : Hp) (b : Nat) : Prop := ∃ id blk p, h.get id = some blk ∧ σ id = some p ∧ p.1 = b

structure Stp (σ : Sg) (h : Hp) (w : World) (σ' : Sg) (h' : Hp) (w' : World) : Prop where
  os : w'.os = w.os
  tape : w'.tape = w.tape
  output : w'.output = w.output
  size : w.heap.size ≤ w'.heap.size
  keep : ∀ b, b < w.heap.size → ¬ owned σ h b → w'.heap[b]? = w.heap[b]?
  own : ∀ b, b < w.heap.size → owned σ' h' b → owned σ h b
  lvs : ∀ b, b < w.heap.size → lives σ' h' b → lives σ h b

theorem Stp.refl (σ : Sg) (h : Hp) (w : World) : Stp σ h w σ h w := ⟨rfl, rfl, rfl, Nat.le_refl _, fun _ _ _ => rfl, fun _ _ x => x, fun _ _ x => x⟩

theorem Stp.trans {σ τ ρ : Sg} {h k l : Hp} {u v w : World} (x : Stp σ h u τ k v) (y : Stp τ k v ρ l w) : Stp σ h u ρ l w :=
  ⟨y.os.trans x.os, y.tape.trans x.tape, y.output.trans x.output, Nat.le_trans x.size y.size,
   fun b hb ho => (y.keep b (Nat.lt_of_lt_of_le hb x.size) (fun o => ho (x.own b hb o))).trans (x.keep b hb ho),
   fun b hb ho => x.own b hb (y.own b (Nat.lt_of_lt_of_le hb x.size) ho),
   fun b hb ho => x.lvs b hb (y.lvs b (Nat.lt_of_lt_of_le hb x.size) ho)⟩

/-- A draw. -/
theorem Stp.drew {σ : Sg} {h : Hp} (w : World) : Stp σ h w σ h w.drew := ⟨rfl, rfl, rfl, Nat.le_refl _, fun _ _ _ => rfl, fun _ _ x => x, fun _ _ x => x⟩
theorem BR.drew {σ : Sg} {w : World} {id : Nat} {blk : Blk} (h : BR σ w id blk) : BR σ w.drew id blk := by cases blk <;> exact h
theorem HR.drew {σ : Sg} {h : Hp} {w : World} (x : HR σ h w) : HR σ h w.drew := ⟨fun i b hb => (x.has i b hb).drew, x.inj⟩

def Ext (σ τ : Sg) (a b : Nat) : Prop := ∀ id, (id < a ∨ b ≤ id) → τ id = σ id
def Fresh (σ : Sg) (a b : Nat) : Prop := ∀ id, a ≤ id → id < b → σ id = none

theorem Ext.refl (σ : Sg) (a b : Nat) : Ext σ σ a b := fun _ _ => rfl
theorem Ext.trans {σ τ ρ : Sg} {a b c : Nat} (x : Ext σ τ a b) (y : Ext τ ρ b c) (h : a ≤ b) (k : b ≤ c) : Ext σ ρ a c :=
  fun id hi => (y id (by omega)).trans (x id (by omega))
theorem Ext.le {σ τ : Sg} {a b : Nat} (x : Ext σ τ a b) (f : Fresh σ a b) : Le σ τ := fun id p h => by
  rw [x id (by
    rcases Nat.lt_or_ge id a with h1 | h1
    · exact .inl h1
    · rcases Nat.lt_or_ge id b with h2 | h2
      · rw [f id h1 h2] at h; simp at h
      · exact .inr h2)]
  exact h
theorem Fresh.ext {σ τ : Sg} {a b c : Nat} (f : Fresh σ a c) (x : Ext σ τ a b) (h : a ≤ b) : Fresh τ b c := fun id h1 h2 => by
  rw [x id (.inr h1)]; exact f id (by omega) h2
theorem Fresh.sub {σ : Sg} {a b c d : Nat} (f : Fresh σ a d) (h : a ≤ b) (k : c ≤ d) : Fresh σ b c := fun id h1 h2 => f id (by omega) (by omega)

/-- One number more. -/
def upd (σ : Sg) (n : Nat) (p : Nat × Nat × Nat) : Sg := fun id => if id = n then some p else σ id
theorem upd_same (σ : Sg) (n : Nat) (p : Nat × Nat × Nat) : upd σ n p n = some p := by simp [upd]
theorem upd_ext (σ : Sg) (n : Nat) (p : Nat × Nat × Nat) : Ext σ (upd σ n p) n (n + 1) := fun id h => by
  simp only [upd]; rw [if_neg (by omega)]
theorem upd_le {σ : Sg} {n : Nat} {p : Nat × Nat × Nat} (h : σ n = none) : Le σ (upd σ n p) := fun id q hq => by
  simp only [upd]; split
  · rename_i e; subst e; rw [h] at hq; simp at hq
  · exact hq

theorem MR.mono {σ τ : Sg} (h : Le σ τ) {es : List (AV × AV × Nat)} {l : List MapEntry} (x : MR σ es l) : MR τ es l :=
  ⟨x.1, fun i k v n e a b => let ⟨p, q, r⟩ := x.2 i k v n e a b; ⟨V.mono h _ _ p, V.mono h _ _ q, r⟩⟩

theorem BR.mono {σ τ : Sg} (h : Le σ τ) {w w' : World} {id : Nat} {blk : Blk} (x : BR σ w id blk) (k : ∀ p, σ id = some p → w'.heap[p.1]? = w.heap[p.1]?) : BR τ w' id blk := by
  cases blk with
  | row cs ty opn md =>
    obtain ⟨b, o, n, cells, fz, tv, h1, h2, h3, h4, h5, h6, h7⟩ := x
    exact ⟨b, o, n, cells, fz, tv, h _ _ h1, (k _ h1).trans h2, h3, h4, h5, VL.mono h _ _ h6, h7⟩
  | amap es clock =>
    obtain ⟨b, o, n, ents, h1, h2, h3⟩ := x
    exact ⟨b, o, n, ents, h _ _ h1, (k _ h1).trans h2, h3.mono h⟩

theorem BR.lt {σ : Sg} {w : World} {id : Nat} {blk : Blk} (x : BR σ w id blk) : ∃ p, σ id = some p ∧ p.1 < w.heap.size := by
  have key : ∀ (b : Nat) (o : Obj), w.heap[b]? = some o → b < w.heap.size := fun b o h => by
    rcases Nat.lt_or_ge b w.heap.size with h1 | h1
    · exact h1
    · rw [Array.getElem?_eq_none h1] at h; simp at h
  cases blk with
  | row cs ty opn md => obtain ⟨b, o, n, cells, fz, tv, h1, h2, _⟩ := x; exact ⟨_, h1, key _ _ h2⟩
  | amap es clock => obtain ⟨b, o, n, ents, h1, h2, h3⟩ := x; exact ⟨_, h1, key _ _ h2⟩

/-- A new block. -/
theorem HR.made {σ : Sg} {h : Hp} {w w' : World} (x : HR σ h w) {nx : Nat} (hn : σ nx = none) {blk : Blk} (o n : Nat)
    (hos : w'.os = w.os) (htp : w'.tape = w.tape) (hout : w'.output = w.output) (hsz : w.heap.size ≤ w'.heap.size) (hold : ∀ k, k < w.heap.size → w'.heap[k]? = w.heap[k]?)
    (hb : BR (upd σ nx (w.heap.size, o, n)) w' nx blk) :
    HR (upd σ nx (w.heap.size, o, n)) (h.set fuelT nx (some blk)) w' ∧
    Stp σ h w (upd σ nx (w.heap.size, o, n)) (h.set fuelT nx (some blk)) w' := by
  have hle : Le σ (upd σ nx (w.heap.size, o, n)) := upd_le hn
  have old : ∀ i bi, h.get i = some bi → i ≠ nx → ∃ p, σ i = some p ∧ p.1 < w.heap.size ∧ upd σ nx (w.heap.size, o, n) i = some p := fun i bi hi hne => by
    obtain ⟨p, hp, hlt⟩ := (x.has i bi hi).lt
    exact ⟨p, hp, hlt, hle _ _ hp⟩
  refine ⟨⟨fun i b hi => ?_, fun i j bi bj p q hi hj hp hq he hwr => ?_⟩, ?_⟩
  · rcases Tr.get_set _ _ _ _ _ _ hi with ⟨rfl, e⟩ | ⟨hne, hi⟩
    · obtain rfl := Option.some.inj e; exact hb
    · refine (x.has i b hi).mono hle fun p hp => ?_
      obtain ⟨p', hp', hlt⟩ := (x.has i b hi).lt
      rw [hp] at hp'; obtain rfl := Option.some.inj hp'
      exact hold _ hlt
  · rcases Tr.get_set _ _ _ _ _ _ hi with ⟨rfl, ei⟩ | ⟨hni, hi2⟩ <;> rcases Tr.get_set _ _ _ _ _ _ hj with ⟨e, ej⟩ | ⟨hnj, hj2⟩
    · exact e.symm
    · obtain ⟨q', hq', hlt, hu⟩ := old j bj hj2 hnj
      rw [upd_same] at hp; obtain rfl := Option.some.inj hp
      rw [hu] at hq; obtain rfl := Option.some.inj hq
      simp at he; omega
    · obtain ⟨p', hp', hlt, hu⟩ := old i bi hi2 hni
      rw [e, upd_same] at hq; obtain rfl := Option.some.inj hq
      rw [hu] at hp; obtain rfl := Option.some.inj hp
      simp at he; omega
    · obtain ⟨p', hp', _, hu⟩ := old i bi hi2 hni
      obtain ⟨q', hq', _, hv⟩ := old j bj hj2 hnj
      rw [hu] at hp; obtain rfl := Option.some.inj hp
      rw [hv] at hq; obtain rfl := Option.some.inj hq
      exact x.inj i j bi bj _ _ hi2 hj2 hp' hq' he hwr
  · refine ⟨hos, htp, hout, hsz, fun b hlt _ => hold _ hlt, fun b hlt ho => ?_, fun b hlt ho => ?_⟩
    · obtain ⟨i, blk', p, hi, hw, hp, he⟩ := ho
      rcases Tr.get_set _ _ _ _ _ _ hi with ⟨rfl, e⟩ | ⟨hne, hi⟩
      · rw [upd_same] at hp; obtain rfl := Option.some.inj hp; simp at he; omega
      · obtain ⟨p', hp', _, hu⟩ := old i _ hi hne
        rw [hu] at hp; obtain rfl := Option.some.inj hp
        exact ⟨i, blk', _, hi, hw, hp', he⟩
    · obtain ⟨i, blk', p, hi, hp, he⟩ := ho
      rcases Tr.get_set _ _ _ _ _ _ hi with ⟨rfl, e⟩ | ⟨hne, hi⟩
      · rw [upd_same] at hp; obtain rfl := Option.some.inj hp; simp at he; omega
      · obtain ⟨p', hp', _, hu⟩ := old i _ hi hne
        rw [hu] at hp; obtain rfl := Option.some.inj hp
        exact ⟨i, blk', _, hi, hp', he⟩

theorem HR.new {σ : Sg} {h : Hp} {w : World} (x : HR σ h w) {nx : Nat} (hn : σ nx = none) {blk : Blk} {obj : Obj} (o n : Nat)
    (hb : BR (upd σ nx (w.heap.size, o, n)) (w.alloc obj) nx blk) :
    HR (upd σ nx (w.heap.size, o, n)) (h.set fuelT nx (some blk)) (w.alloc obj) ∧
    Stp σ h w (upd σ nx (w.heap.size, o, n)) (h.set fuelT nx (some blk)) (w.alloc obj) :=
  x.made hn o n rfl rfl rfl (by simp) (fun _ hk => Below.heap_alloc _ _ _ hk) hb

/-- A block turned in place: its number stands for the same block, and nothing else is turned. -/
theorem HR.put {σ : Sg} {h : Hp} {w w' : World} (x : HR σ h w) {id : Nat} {blk0 blk : Blk} (h0 : h.get id = some blk0) (hw0 : wr blk0 = true) {p : Nat × Nat × Nat} (hp : σ id = some p)
    (hos : w'.os = w.os) (ht : w'.tape = w.tape) (hout : w'.output = w.output) (hsz : w'.heap.size = w.heap.size)
    (hk : ∀ b, b ≠ p.1 → w'.heap[b]? = w.heap[b]?) (hb : BR σ w' id blk) :
    HR σ (h.set fuelT id (some blk)) w' ∧ Stp σ h w σ (h.set fuelT id (some blk)) w' := by
  have back : ∀ i bi, (h.set fuelT id (some blk)).get i = some bi → ∃ bi', h.get i = some bi' ∧ (wr bi = true → wr bi' = true) := fun i bi hi => by
    rcases Tr.get_set _ _ _ _ _ _ hi with ⟨rfl, e⟩ | ⟨hne, hi⟩
    · exact ⟨_, h0, fun _ => hw0⟩
    · exact ⟨_, hi, fun z => z⟩
  refine ⟨⟨fun i b hi => ?_, fun i j bi bj q r hi hj hq hr he hwr => ?_⟩, hos, ht, hout, by omega, fun b _ ho => hk b fun e => ho ⟨id, blk0, p, h0, hw0, hp, e.symm⟩, fun b _ ho => ?_, fun b _ ho => ?_⟩
  · rcases Tr.get_set _ _ _ _ _ _ hi with ⟨rfl, e⟩ | ⟨hne, hi⟩
    · obtain rfl := Option.some.inj e; exact hb
    · exact (x.has i b hi).mono (Le.refl _) fun q hq => hk _ fun e => hne (x.inj i id b blk0 q p hi h0 hq hp e (.inr hw0))
  · obtain ⟨bi', hi', w1⟩ := back i bi hi
    obtain ⟨bj', hj', w2⟩ := back j bj hj
    exact x.inj i j bi' bj' q r hi' hj' hq hr he (hwr.imp w1 w2)
  · obtain ⟨i, bi, q, hi, hw, hq, he⟩ := ho
    obtain ⟨bi', hi', hww⟩ := back i bi hi
    exact ⟨i, bi', q, hi', hww hw, hq, he⟩
  · obtain ⟨i, bi, q, hi, hq, he⟩ := ho
    obtain ⟨bi', hi', _⟩ := back i bi hi
    exact ⟨i, bi', q, hi', hq, he⟩

theorem addr_add (b o n : Nat) : (⟨b, o, none⟩ : Addr).add n = ⟨b, o + n, none⟩ := by
  unfold Addr.add; split <;> simp_all

theorem cell_row {w : World} {b : Nat} {cells : Array Value} {ty : TypeId} {fz : Nat × Nat} (h : w.heap[b]? = some (.cells cells ty fz)) (i : Nat) :
    w.cell? ⟨b, i, none⟩ = cells.toList[i]? := by
  simp [World.cell?, h]

/-- Cells of ours are the model's. -/
theorem loadC_ok {σ : Sg} {h : Hp} {w : World} (x : HR σ h w) {P : Program} {id off n : Nat} {l : List AV} (hl : loadC h id off n = some l) :
    ∃ b o m ys, σ id = some (b, o, m) ∧ (loadCells ⟨b, o + off, none⟩ n).run P w = .ok ⟨ys⟩ w ∧ VL σ l ys ∧ ys.length = n := by
  unfold loadC at hl
  unfold row? at hl
  cases hg : h.get id with
  | none => simp [hg] at hl
  | some blk =>
    cases blk with
    | amap => simp [hg] at hl
    | row cs ty opn md =>
      simp only [hg] at hl
      cases hb : Nat.beq ((cs.drop off).take n).length n with
      | false => simp only [hb, cond_false] at hl; simp at hl
      | true =>
        simp only [hb, cond_true] at hl
        obtain rfl := Option.some.inj hl
        have hlen := Nat.eq_of_beq_eq_true hb
        obtain ⟨b, o, m, cells, fz, tv, h1, h2, h3, h4, h5, h6, h7⟩ := x.has _ _ hg
        have hv := VL.take n (VL.drop off h6)
        have hyl := hv.length
        refine ⟨b, o, m, _, h1, ?_, hv, by rw [← hyl]; exact hlen⟩
        have := run_loadCells_list (P := P) (w := w) ⟨b, o + off, none⟩ ((((cells.toList.drop o).take cs.length).drop off).take n) (fun j v hj => by
          rw [addr_add, cell_row h2]
          rw [List.getElem?_take] at hj
          split at hj
          · rw [List.getElem?_drop, List.getElem?_take] at hj
            split at hj
            · rw [List.getElem?_drop] at hj; rw [← hj]; congr 1; omega
            · simp at hj
          · simp at hj)
        rw [show ((((cells.toList.drop o).take cs.length).drop off).take n).length = n by rw [← hyl]; exact hlen] at this
        exact this

end
end Go.Proofs.YtgihpgdjkanodaaGreatDoor.Ev

namespace Go.Proofs.YtgihpgdjkanodaaGreatDoor.Ev
noncomputable section
open Go Go.RowKit

theorem splice_get {α : Type} : ∀ (l : List α) (n : Nat) (vs : List α) (i : Nat), n + vs.length ≤ l.length →
    (splice l n vs)[i]? = if n ≤ i ∧ i < n + vs.length then vs[i - n]? else l[i]?
  | l, 0, vs, i, h => by
    simp only [splice, List.getElem?_append]
    by_cases hi : i < vs.length
    · simp [hi]
    · simp only [hi, if_false, Nat.zero_le, Nat.zero_add, and_false]
      rw [List.getElem?_drop]; congr 1; omega
  | x :: l, n + 1, vs, i, h => by
    cases i with
    | zero => simp [splice]
    | succ i =>
      simp only [splice, List.getElem?_cons_succ]
      rw [splice_get l n vs i (by simp at h; omega)]
      by_cases hi : n ≤ i ∧ i < n + vs.length
      · rw [if_pos hi, if_pos (by omega)]; congr 1; omega
      · rw [if_neg hi, if_neg (by omega)]
  | [], n + 1, vs, i, h => by simp at h

theorem splice_length {α : Type} : ∀ (l : List α) (n : Nat) (vs : List α), n + vs.length ≤ l.length → (splice l n vs).length = l.length
  | l, 0, vs, h => by simp [splice]; omega
  | x :: l, n + 1, vs, h => by simp [splice]; exact splice_length l n vs (by simp at h; omega)
  | [], n + 1, vs, h => by simp at h

theorem splice_cons {α : Type} (l : List α) (n : Nat) (v : α) (vs : List α) (h : n + (vs.length + 1) ≤ l.length) : splice l n (v :: vs) = splice (l.set n v) (n + 1) vs := by
  apply List.ext_getElem?
  intro i
  rw [splice_get _ _ _ _ (by simpa using h), splice_get _ _ _ _ (by simp; omega), List.getElem?_set]
  simp only [List.length_cons]
  by_cases h1 : n ≤ i ∧ i < n + (vs.length + 1)
  · rw [if_pos h1]
    by_cases h2 : i = n
    · subst h2; rw [if_neg (by omega), if_pos rfl, if_pos (by omega)]; simp
    · rw [if_pos (by omega)]
      obtain ⟨k, rfl⟩ : ∃ k, i = n + (k + 1) := ⟨i - n - 1, by omega⟩
      rw [show n + (k + 1) - n = k + 1 by omega, show n + (k + 1) - (n + 1) = k by omega]; rfl
  · rw [if_neg h1, if_neg (by omega), if_neg (by omega)]

theorem VL.splice {σ : Sg} {l : List AV} {vs : List Value} {m : List AV} {ys : List Value} (h : VL σ l vs) (k : VL σ m ys) (n : Nat) (hb : n + m.length ≤ l.length) :
    VL σ (Ev.splice l n m) (Ev.splice vs n ys) := by
  have hl := h.length
  have hm := k.length
  refine (VL_iff _ _).2 ⟨by rw [splice_length _ _ _ hb, splice_length _ _ _ (by omega), hl], fun i a v ha hv => ?_⟩
  rw [splice_get _ _ _ _ hb] at ha
  rw [splice_get _ _ _ _ (by omega), ← hm] at hv
  split at ha
  · rename_i hi; rw [if_pos hi] at hv; exact ((VL_iff _ _).1 k).2 _ _ _ ha hv
  · rename_i hi; rw [if_neg hi] at hv; exact ((VL_iff _ _).1 h).2 _ _ _ ha hv

theorem setCell_row {w : World} {b : Nat} {cells : Array Value} {ty : TypeId} {fz : Nat × Nat} (h : w.heap[b]? = some (.cells cells ty fz)) (j : Nat) (v : Value) :
    (w.setCell ⟨b, j, none⟩ v).heap[b]? = some (.cells (cells.setIfInBounds j v) ty fz) := by
  simp [World.setCell, Array.getElem?_modify, h]

theorem run_storeRow (P : Program) (ty : TypeId) (fz : Nat × Nat) (b off : Nat) : ∀ (ys : List Value) (i : Nat) (w : World) (cells : Array Value), w.heap[b]? = some (.cells cells ty fz) → free fz cells.size →
    (∀ y ∈ ys, y.oneCell' = true) → off + i + ys.length ≤ cells.size →
    ∃ w' cells', (storeCells ⟨b, off, none⟩ ys i).run P w = .ok () w' ∧ w'.heap[b]? = some (.cells cells' ty fz) ∧ cells'.toList = splice cells.toList (off + i) ys ∧
      w'.os = w.os ∧ w'.tape = w.tape ∧ w'.output = w.output ∧ w'.heap.size = w.heap.size ∧ ∀ k, k ≠ b → w'.heap[k]? = w.heap[k]?
  | [], i, w, cells, h, _, _, hb => by
    refine ⟨w, cells, rfl, h, ?_, rfl, rfl, rfl, rfl, fun _ _ => rfl⟩
    apply List.ext_getElem?
    intro j
    rw [splice_get _ _ _ _ (by simpa using hb), if_neg (by simp)]
  | y :: ys, i, w, cells, h, hf, hy, hb => by
    simp only [List.length_cons] at hb
    have hc := cell_row h (off + i)
    have hlt : off + i < cells.toList.length := by simp; omega
    rw [List.getElem?_eq_getElem hlt] at hc
    have hfz : w.frozen? ⟨b, off + i, none⟩ = false := by
      have hfi := hf (off + i) (by omega)
      obtain ⟨f1, f2⟩ := fz
      simp only [World.frozen?, h]
      simp only at hfi
      simpa using hfi
    have hr : (store ((⟨b, off, none⟩ : Addr).add i) y).run P w = .ok () (w.setCell ⟨b, off + i, none⟩ y) := by
      rw [addr_add, run_store P w _ y .plain (hy y (by simp))]
      simp [hc, hfz]
    obtain ⟨w', cells', r1, r2, r3, r4, r5, r6, r7, r8⟩ := run_storeRow P ty fz b off ys (i + 1) (w.setCell ⟨b, off + i, none⟩ y) _ (setCell_row h (off + i) y) (by simpa using hf) (fun z hz => hy z (by simp [hz])) (by simp; omega)
    refine ⟨w', cells', ?_, r2, ?_, r4, r5, r6, by rw [r7]; simp [World.setCell], fun k hk => (r8 k hk).trans (Below.heap_setCell _ _ _ _ hk)⟩
    · simp only [storeCells, Sem.run_bind, hr, Result.andThen_ok]; exact r1
    · rw [r3, splice_cons _ _ _ _ (by simp; omega)]
      simp [Nat.add_assoc]

theorem scal_one {σ : Sg} {a : AV} {v : Value} (h : scal a = true) (k : V σ a v) : v.oneCell' = true := by
  cases a <;> simp [scal] at h <;> simp only [V] at k
  all_goals first
    | (subst k; rfl)
    | (obtain ⟨_, _, _, _, rfl⟩ := k; rfl)
    | (obtain ⟨_, _, _, _, _, rfl, _⟩ := k; rfl)
    | (obtain ⟨_, _, _, _, rfl⟩ := k; rfl)
    | (obtain ⟨_, _, rfl⟩ := k; rfl)

theorem VL.one {σ : Sg} : ∀ {l : List AV} {vs : List Value}, l.all scal = true → VL σ l vs → ∀ y ∈ vs, y.oneCell' = true
  | [], vs, _, h, y, hy => by obtain rfl := h; simp at hy
  | a :: l, vs, ha, ⟨z, zs, p, q, r⟩, y, hy => by
    subst p
    simp at ha
    rcases List.mem_cons.1 hy with rfl | hy
    · exact scal_one ha.1 q
    · exact VL.one (by simpa using ha.2) r y hy

theorem storeC_ok {σ : Sg} {h h' : Hp} {w : World} (x : HR σ h w) {P : Program} {id off : Nat} {vs : List AV} {ys : List Value} (hs : storeC h id off vs = some h') (hv : VL σ vs ys) :
    ∃ b o m w', σ id = some (b, o, m) ∧ (storeCells ⟨b, o + off, none⟩ ys).run P w = .ok () w' ∧ HR σ h' w' ∧ Stp σ h w σ h' w' := by
  unfold storeC at hs
  cases hg : h.get id with
  | none => simp [hg] at hs
  | some blk =>
    cases blk with
    | amap => simp [hg] at hs
    | row cs ty opn md =>
      simp only [hg] at hs
      cases hb : (Nat.ble md 1 && Nat.ble (off + vs.length) cs.length && vs.all scal) with
      | false => simp only [hb, cond_false] at hs; simp at hs
      | true =>
        simp only [hb, cond_true] at hs
        obtain rfl := Option.some.inj hs
        simp only [Bool.and_eq_true] at hb
        obtain ⟨⟨hb1, hb2⟩, hb3⟩ := hb
        have hb1' := Nat.le_of_ble_eq_true hb1
        have hb2' := Nat.le_of_ble_eq_true hb2
        have hlen := hv.length
        obtain ⟨b, o, m, cells, fz, tv, h1, h2, h3, h4, h5, h6, h7, h8⟩ := x.has _ _ hg
        obtain ⟨w', cells', r1, r2, r3, r4, r5, r6, r7, r8⟩ := run_storeRow P tv fz b (o + off) ys 0 w cells h2 (by rw [h3]; exact h7 hb1') (VL.one hb3 hv) (by omega)
        have hsl : (splice cells.toList (o + off + 0) ys).length = cells.toList.length := splice_length _ _ _ (by simp; omega)
        have hsz : cells'.size = cells.size := by rw [← Array.length_toList, r3, hsl, Array.length_toList]
        have hcl := splice_length cs off vs hb2'
        obtain ⟨q1, q2⟩ := x.put hg (by simp [wr]; exact hb1') h1 r4 r5 r6 r7 r8 (blk := .row (splice cs off vs) ty opn md) (by
          refine ⟨b, o, m, cells', fz, tv, h1, r2, by omega, by rw [hcl]; exact h4, by rw [hcl]; exact h5, ?_, h7, h8⟩
          rw [hcl, r3]
          have := VL.splice h6 hv off hb2'
          refine (VL_iff _ _).2 ⟨?_, fun i a v ha hv' => ?_⟩
          · rw [hcl, List.length_take, List.length_drop, hsl]; simp; omega
          · refine ((VL_iff _ _).1 this).2 i a v ha ?_
            rw [splice_get _ _ _ _ (by simp; omega)]
            rw [List.getElem?_take, List.getElem?_drop, splice_get _ _ _ _ (by simp; omega)] at hv'
            split at hv'
            · rename_i hi
              by_cases hj : off ≤ i ∧ i < off + ys.length
              · rw [if_pos (by omega)] at hv'
                rw [if_pos hj, ← hv']; congr 1; omega
              · rw [if_neg (by omega)] at hv'
                rw [if_neg hj, List.getElem?_take, List.getElem?_drop, if_pos hi, hv']
            · simp at hv')
        exact ⟨b, o, m, w', h1, r1, q1, q2⟩

/-- What is not known of types: an operation's own questions. -/
theorem size?_ok {P : Program} {t : TypeId} {n : Nat} (h : size? P t = some n) : ∃ i, P.info? t = some i ∧ i.size = n := by
  unfold size? at h
  cases hi : P.info? t with
  | none => simp [hi] at h
  | some i => simp [hi] at h; exact ⟨i, rfl, h⟩

theorem run_typeInfo {P : Program} {t : TypeId} {i : TypeInfo} (h : P.info? t = some i) (w : World) : (typeInfo t).run P w = .ok i w := by
  simp [typeInfo, h]
theorem run_sizeOf {P : Program} {t : TypeId} {n : Nat} (h : size? P t = some n) (w : World) : (sizeOf t).run P w = .ok n w := by
  obtain ⟨i, hi, rfl⟩ := size?_ok h
  simp [sizeOf, run_typeInfo hi]
theorem run_under {P : Program} {t : TypeId} {d : TypeDesc} (h : P.underlying t = some d) (w : World) : (underlying t).run P w = .ok d w := by
  simp [underlying, h]
theorem run_isAgg {P : Program} {t : TypeId} {b : Bool} (h : agg? P t = some b) (w : World) : (isAgg t).run P w = .ok b w := by
  unfold agg? at h
  split at h
  · rename_i heq; simp at h; subst h; simp [isAgg, run_under heq]
  · rename_i heq; simp at h; subst h; simp [isAgg, run_under heq]
  · rename_i d n1 n2 heq
    simp at h; subst h
    simp only [isAgg, Sem.run_bind, run_under heq, Result.andThen_ok]
    cases d <;> first | rfl | (exact absurd heq (n1 _)) | (exact absurd heq (n2 _ _))
  · simp at h
theorem run_zeroValue {P : Program} {t : TypeId} {z : AV} (h : zero? P t = some z) (w : World) (σ : Sg) : ∃ v, (zeroValue t).run P w = .ok v w ∧ V σ z v ∧ ∃ i, P.info? t = some i ∧ i.zero = some v := by
  unfold zero? at h
  cases hi : P.info? t with
  | none => simp [hi] at h
  | some i =>
    simp only [hi] at h
    cases hz : i.zero with
    | none => simp [hz] at h
    | some v =>
      simp only [hz] at h
      exact ⟨v, by simp [zeroValue, run_typeInfo hi, hz], ofV_ok h, i, rfl, hz⟩

theorem loadV_ok {σ : Sg} {h : Hp} {w : World} (x : HR σ h w) {P : Program} {t : TypeId} {id off : Nat} {a : AV} (hl : loadV P h t id off = some a) :
    ∃ b o m v, σ id = some (b, o, m) ∧ (loadVar t ⟨b, o + off, none⟩).run P w = .ok v w ∧ V σ a v := by
  unfold loadV at hl
  cases hag : agg? P t with
  | none => simp [hag] at hl
  | some g =>
    cases g with
    | true =>
      simp only [hag] at hl
      cases hn : size? P t with
      | none => simp [hn] at hl
      | some n =>
        simp only [hn] at hl
        cases hc : loadC h id off n with
        | none => simp [hc] at hl
        | some l =>
          simp [hc] at hl; subst hl
          obtain ⟨b, o, m, ys, h1, h2, h3, _⟩ := loadC_ok x (P := P) hc
          exact ⟨b, o, m, .agg ⟨ys⟩, h1, by simp [loadVar, run_isAgg hag, run_sizeOf hn, h2], ys, h3, rfl⟩
    | false =>
      simp only [hag] at hl
      unfold row? at hl
      cases hg : h.get id with
      | none => simp [hg] at hl
      | some blk =>
        cases blk with
        | amap => simp [hg] at hl
        | row cs ty opn md =>
          simp only [hg] at hl
          obtain ⟨b, o, m, cells, fz, tv, h1, h2, h3, h4, h5, h6, h7⟩ := x.has _ _ hg
          obtain ⟨v, hv, hV⟩ := VL.get h6 hl
          refine ⟨b, o, m, v, h1, ?_, hV⟩
          rw [List.getElem?_take, List.getElem?_drop] at hv
          have hc : w.cell? ⟨b, o + off, none⟩ = some v := by
            rw [cell_row h2]; split at hv
            · exact hv
            · simp at hv
          simp [loadVar, run_isAgg hag, hc]
end
end Go.Proofs.YtgihpgdjkanodaaGreatDoor.Ev

