/-
  Helper text: a machine of our own that reckons calls over data that are known; no statement is proved here.
-/
import Derived.Below
import Derived.Orders
import Derived.Tactics
namespace Go.Proofs.Ytfaocndelibadaa.Ev
noncomputable section
open Go Go.RowKit

inductive Cap where
  | known (c : Nat)
  | opn (e : Nat)
  deriving Inhabited

inductive AV where
  | bool (b : Bool)
  | int (k : IntKind) (n : Int)
  | str (s : List UInt8)
  | nilp
  | ptr (id off : Nat)
  | nilsl
  | sl (id off len : Nat) (c : Cap)
  | esl
  | nsl
  | nilmap
  | mp (id : Nat)
  | func (fn : Fn) (first captured : List AV)
  | nilFunc
  | iface (t : TypeId) (v : AV)
  | nilIface
  | agg (l : List AV)
  | tup (l : List AV)
  deriving Inhabited

def AV.cells : AV → List AV
  | .agg l => l
  | v => [v]

/-- A tree of what lies at numbers. -/
inductive Tr (α : Type) where
  | leaf
  | node (v : Option α) (l r : Tr α)

def Tr.get {α : Type} (t : Tr α) : Nat → Option α :=
  Tr.rec (motive := fun _ => Nat → Option α) (fun _ => none) (fun v _ _ gl gr n => Nat.casesOn n v fun m => bif Nat.beq (m % 2) 0 then gl (m / 2) else gr (m / 2)) t
def Tr.set {α : Type} (f : Nat) : Tr α → Nat → Option α → Tr α :=
  Nat.rec (motive := fun _ => Tr α → Nat → Option α → Tr α) (fun _ _ _ => .leaf)
    (fun _ ih t n b => Tr.casesOn t
      (Nat.casesOn n (.node b .leaf .leaf) fun m => bif Nat.beq (m % 2) 0 then .node none (ih .leaf (m / 2) b) .leaf else .node none .leaf (ih .leaf (m / 2) b))
      (fun v l r => Nat.casesOn n (.node b l r) fun m => bif Nat.beq (m % 2) 0 then .node v (ih l (m / 2) b) r else .node v l (ih r (m / 2) b))) f
theorem Tr.get_leaf {α : Type} (n : Nat) : (Tr.leaf : Tr α).get n = none := rfl
theorem Tr.get_zero {α : Type} (v : Option α) (l r : Tr α) : (Tr.node v l r).get 0 = v := rfl
theorem Tr.get_succ {α : Type} (v : Option α) (l r : Tr α) (m : Nat) : (Tr.node v l r).get (m + 1) = bif Nat.beq (m % 2) 0 then l.get (m / 2) else r.get (m / 2) := rfl
theorem Tr.set_none {α : Type} (t : Tr α) (n : Nat) (b : Option α) : Tr.set 0 t n b = .leaf := rfl
theorem Tr.set_leaf_zero {α : Type} (f : Nat) (b : Option α) : Tr.set (f + 1) .leaf 0 b = .node b .leaf .leaf := rfl
theorem Tr.set_leaf_succ {α : Type} (f m : Nat) (b : Option α) : Tr.set (f + 1) .leaf (m + 1) b = bif Nat.beq (m % 2) 0 then .node none (Tr.set f .leaf (m / 2) b) .leaf else .node none .leaf (Tr.set f .leaf (m / 2) b) := rfl
theorem Tr.set_node_zero {α : Type} (f : Nat) (v : Option α) (l r : Tr α) (b : Option α) : Tr.set (f + 1) (.node v l r) 0 b = .node b l r := rfl
theorem Tr.set_node_succ {α : Type} (f : Nat) (v : Option α) (l r : Tr α) (m : Nat) (b : Option α) : Tr.set (f + 1) (.node v l r) (m + 1) b = bif Nat.beq (m % 2) 0 then .node v (Tr.set f l (m / 2) b) r else .node v l (Tr.set f r (m / 2) b) := rfl
attribute [irreducible] Tr.get Tr.set

inductive Blk where
  | row (cells : List AV) (ty : TypeId) (opn : Bool) (md : Nat)
  | amap (es : List (AV × AV × Nat)) (clock : Nat)

abbrev Hp := Tr Blk

def ofS : Value → Option AV
  | .bool b => some (.bool b)
  | .int k n => some (.int k n)
  | .string s => some (.str s.data.toList)
  | .pointer none => some .nilp
  | .slice none 0 0 => some .nilsl
  | .map none => some .nilmap
  | .nilFunc => some .nilFunc
  | .nilIface => some .nilIface
  | _ => none

def ofL : List Value → Option (List AV)
  | [] => some []
  | v :: l => match ofS v, ofL l with
    | some a, some r => some (a :: r)
    | _, _ => none

def ofV : Value → Option AV
  | .agg cs => (ofL cs.toList).map .agg
  | .tuple cs => (ofL cs.toList).map .tup
  | .iface t v => (ofS v).map (.iface t)
  | v => ofS v

def toS : AV → Option Value
  | .bool b => some (.bool b)
  | .int k n => some (.int k n)
  | .str s => some (.string ⟨⟨s⟩⟩)
  | .nilp => some (.pointer none)
  | .nilsl => some (.slice none 0 0)
  | .nilmap => some (.map none)
  | .nilFunc => some .nilFunc
  | .nilIface => some .nilIface
  | _ => none

def toL : List AV → Option (List Value)
  | [] => some []
  | v :: l => match toS v, toL l with
    | some a, some r => some (a :: r)
    | _, _ => none

def toV : AV → Option Value
  | .agg cs => (toL cs).map fun l => .agg ⟨l⟩
  | .iface t v => (toS v).map (.iface t)
  | v => toS v

def pureOf {α : Type} (P : Program) : Sem α → Option α
  | .pure a => some a
  | .program k => pureOf P (k P)
  | .mark _ k => pureOf P k
  | _ => none

/-- What an operation comes to. -/
inductive Out where
  | val (v : AV) (h : Hp) (nx : Nat)
  | skip (h : Hp) (nx : Nat)
  | enter (f : FuncId) (args : List AV)

def slice? (P : Program) (t : TypeId) : Option TypeId :=
  match P.underlying t with
  | some (.slice e) => some e
  | _ => none

def size? (P : Program) (t : TypeId) : Option Nat := (P.info? t).map (·.size)

def agg? (P : Program) (t : TypeId) : Option Bool :=
  match P.underlying t with
  | some (.struct _) | some (.array _ _) => some true
  | some _ => some false
  | none => none

def zero? (P : Program) (t : TypeId) : Option AV :=
  match P.info? t with
  | some i => match i.zero with
    | some z => ofV z
    | none => none
  | none => none

def fuelT : Nat := 40

def row? (h : Hp) (id : Nat) : Option (List AV) :=
  match h.get id with
  | some (.row cs _ _ _) => some cs
  | _ => none

def loadC (h : Hp) (id off n : Nat) : Option (List AV) :=
  match row? h id with
  | some cs => let l := (cs.drop off).take n
    bif Nat.beq l.length n then some l else none
  | none => none

def loadV (P : Program) (h : Hp) (t : TypeId) (id off : Nat) : Option AV :=
  match agg? P t with
  | some true => match size? P t with
    | some n => (loadC h id off n).map .agg
    | none => none
  | some false => match row? h id with
    | some cs => cs[off]?
    | none => none
  | none => none

def splice {α : Type} : List α → Nat → List α → List α
  | l, 0, vs => vs ++ l.drop vs.length
  | x :: l, n + 1, vs => x :: splice l n vs
  | [], _ + 1, _ => []

/-- One cell holds it. -/
def scal : AV → Bool
  | .agg _ | .tup _ => false
  | _ => true

def storeC (h : Hp) (id off : Nat) (vs : List AV) : Option Hp :=
  match h.get id with
  | some (.row cs ty opn md) =>
    bif (Nat.ble md 1) && Nat.ble (off + vs.length) cs.length && vs.all scal then some (h.set fuelT id (some (.row (splice cs off vs) ty opn md))) else none
  | _ => none

def newR (h : Hp) (nx : Nat) (ty : TypeId) (cs : List AV) (opn : Bool) (md : Nat) : Hp := h.set fuelT nx (some (.row cs ty opn md))

def fillC (place : Nat → Option (Nat × Nat)) (cells : List AV) : List (Nat × AV) → Option (List AV)
  | [] => some cells
  | (i, v) :: rest => match place i with
    | none => none
    | some (off, size) =>
      bif Nat.beq v.cells.length size && Nat.ble (off + size) cells.length then fillC place (splice cells off v.cells) rest else none

/-- The places of a struct's fields. -/
def placesOf (P : Program) : List Field → Option (List (Nat × Nat))
  | [] => some []
  | f :: l => match size? P f.type, placesOf P l with
    | some s, some r => some ((f.offset, s) :: r)
    | _, _ => none

def partC (P : Program) (t : TypeId) (cs : List AV) (off : Nat) : Option AV :=
  match agg? P t, size? P t with
  | some true, some n => let l := (cs.drop off).take n
    bif Nat.beq l.length n then some (.agg l) else none
  | some false, _ => cs[off]?
  | _, _ => none

def intOfAV : AV → Option Int
  | .int _ n => some n
  | _ => none

/-- The equality of two values, where addresses are among them. -/
def eqAV (P : Program) (t : TypeId) (x y : AV) : Option Bool :=
  match P.underlying t, x, y with
  | some (.pointer _), .nilp, .nilp => some true
  | some (.pointer _), .nilp, .ptr .. => some false
  | some (.pointer _), .ptr .., .nilp => some false
  | some (.pointer e), .ptr i o, .ptr j p => match size? P e with
    | some 0 | none => none
    | some _ => bif Nat.beq i j then some (Nat.beq o p) else none
  | some (.interface _), .nilIface, .iface .. => some false
  | some (.interface _), .iface .., .nilIface => some false
  | some (.slice _), .nilsl, .sl .. => some false
  | some (.slice _), .sl .., .nilsl => some false
  | some (.slice _), .nilsl, .nsl => some false
  | some (.slice _), .nsl, .nilsl => some false
  | some (.map ..), .nilmap, .mp _ => some false
  | some (.map ..), .mp _, .nilmap => some false
  | some (.func ..), .nilFunc, .func .. => some false
  | some (.func ..), .func .., .nilFunc => some false
  | _, _, _ => none

/-- The equality of two cells that hold no address. -/
def eqSc : AV → AV → TypeDesc → Option Bool
  | .int k a, .int l b, .int _ => bif decide (k = l) then some (a == b) else none
  | .bool a, .bool b, .bool => some (a == b)
  | _, _, _ => none

def eqFs (P : Program) : List Field → List AV → List AV → Option Bool
  | [], _, _ => some true
  | f :: l, xs, ys => bif f.name == "_" then none else match agg? P f.type, P.underlying f.type, xs[f.offset]?, ys[f.offset]? with
    | some false, some d, some a, some b => match eqSc a b d, eqFs P l xs ys with
      | some e, some r => some (e && r)
      | _, _ => none
    | _, _, _, _ => none

def eqAgg (P : Program) (t : TypeId) (xs ys : List AV) : Option Bool := match P.underlying t with
  | some (.struct fs) => bif P.stoodInHeld t || P.eqGuardType P.depth t then none else eqFs P fs.toList xs ys
  | _ => none

def aggs : Option AV → Option AV → Option (List AV × List AV)
  | some (.agg a), some (.agg b) => some (a, b)
  | _, _ => none

def boolOf (o : Option AV) : Option Bool := match o with | some (.bool b) => some b | _ => none

abbrev Rho := Operand → Option AV

def valsOf (ρ : Rho) : List Operand → Option (List AV)
  | [] => some []
  | x :: l => match ρ x, valsOf ρ l with
    | some a, some r => some (a :: r)
    | _, _ => none

def toO (o : Option AV) : Option Value := match o with
  | some v => toV v
  | none => none

def ground (P : Program) (ρ : Rho) (o : Oper) (h : Hp) (nx : Nat) : Option Out :=
  bif o.op.operands.toList.all fun x => (toO (ρ x)).isSome then
    match pureOf P (execOp (fun x => (toO (ρ x)).getD undef) o) with
    | some (.value v) => match ofV v with
      | some a => some (.val a h nx)
      | none => none
    | _ => none
  else none

def bytesOf : List AV → Option (List UInt8)
  | [] => some []
  | .int .u8 n :: l => (bytesOf l).map (UInt8.ofNat n.toNat :: ·)
  | _ => none

def isU8 (P : Program) (e : TypeId) : Bool := match P.underlying e with | some (.int .u8) => true | _ => false

/-- A bound: what stands there, or what is taken in its place. -/
def bndA (d : Nat) : Option AV → Option Int
  | none => some d
  | some v => intOfAV v

def cutA (s l u m : Nat) (id off : Nat) (c : Cap) : AV := .sl id (bif Nat.beq m l then off else off + l * s) (u - l) c

def okB (l u m c : Int) : Bool := decide (0 ≤ l) && decide (l ≤ u) && decide (u ≤ m) && decide (m ≤ c)

def sliceCase (P : Program) (t : TypeId) (x : AV) (lo hi mx : Option AV) (h : Hp) (nx : Nat) : Option Out :=
  match P.underlying t with
  | some (.array n e) => match x with
    | .ptr id off => match size? P e, bndA 0 lo, bndA n hi, mx with
      | some s, some l, some u, none =>
        bif okB l u n n then some (.val (cutA s l.toNat u.toNat n id off (.known (n - l.toNat))) h nx) else none
      | _, _, _, _ => none
    | _ => none
  | some (.slice e) => match x with
    | .sl id off len (.known c) => match size? P e, bndA 0 lo, bndA len hi, bndA c mx with
      | some s, some l, some u, some m =>
        bif okB l u m c && (mx.isNone || hi.isSome) then some (.val (cutA s l.toNat u.toNat m.toNat id off (.known (m.toNat - l.toNat))) h nx) else none
      | _, _, _, _ => none
    | .sl id off len (.opn k) => match size? P e, bndA 0 lo, bndA len hi, mx with
      | some s, some l, some u, none =>
        bif okB l u len len && (decide (l < len) || decide (l = 0)) && Nat.beq s k then
          some (.val (.sl id (off + l.toNat * s) (u.toNat - l.toNat) (.opn k)) h nx)
        else bif okB l u len len && decide (l = u) then some (.val .nsl h nx) else none
      | some s, some l, some u, some m => match intOfAV m with
        | some m => bif okB l u m len && hi.isSome then
            some (.val (cutA s l.toNat u.toNat m.toNat id off (.known (m.toNat - l.toNat))) h nx) else none
        | none => none
      | _, _, _, _ => none
    | .nilsl => match bndA 0 lo, bndA 0 hi, bndA 0 mx with
      | some l, some u, some m => bif okB l u m 0 && (mx.isNone || hi.isSome) then (match size? P e with | some _ => some (.val .nilsl h nx) | none => none) else none
      | _, _, _ => none
    | _ => none
  | _ => none

/-- An operand that may be missing. -/
def optO (ρ : Rho) : Option Operand → Option (Option AV)
  | none => some none
  | some x => match ρ x with
    | some v => some (some v)
    | none => none

/-- The cells of what is appended, and how many elements these are. -/
def srcOf (h : Hp) (size : Nat) : AV → Option (Nat × List AV)
  | .str s => bif Nat.beq size 1 then some (s.length, s.map fun b => .int .u8 b.toNat) else none
  | .nilsl => some (0, [])
  | .esl => some (0, [])
  | .sl id off len _ => match loadC h id off (len * size) with
    | some l => some (len, l)
    | none => none
  | _ => none

def rep (n : Nat) (l : List AV) : List AV := (List.replicate n l).flatten

def isInt : TypeDesc → Bool
  | .int _ => true
  | _ => false

def appendTo (h : Hp) (nx : Nat) (e size n : Nat) (new : List AV) : AV → Option Out
  | .nilsl => bif Nat.beq n 0 then some (.val .nilsl h nx) else
    some (.val (.sl nx 0 n (.opn size)) (newR h nx e new true 0) (nx + 1))
  | .sl id off len c =>
    match c with
    | .known c => bif Nat.ble (len + n) c then
        match storeC h id (off + len * size) new with
        | some h => some (.val (.sl id off (len + n) (.known c)) h nx)
        | none => none
      else match loadC h id off (len * size) with
        | some old => some (.val (.sl nx 0 (len + n) (.opn size)) (newR h nx e (old ++ new) true 0) (nx + 1))
        | none => none
    | .opn k => bif Nat.beq k size then
        match h.get id with
        | some (.row cs ty _ md) =>
          bif Nat.ble (off + (len + n) * size) cs.length then
            match storeC h id (off + len * size) new with
            | some h => some (.val (.sl id off (len + n) (.opn size)) h nx)
            | none => none
          else match loadC h id off (len * size) with
            | some old => bif Nat.beq md 0 && Nat.beq ty e && new.all scal then
                some (.val (.sl nx 0 (len + n) (.opn size)) (newR (h.set fuelT id none) nx e (old ++ new) true 0) (nx + 1)) else none
            | none => none
        | _ => none
      else none
  | _ => none

def lenA : AV → Nat
  | .sl _ _ n _ => n
  | _ => 0

def appendCase (P : Program) (argTypes : Array TypeId) (s x : AV) (h : Hp) (nx : Nat) : Option Out :=
  match argTypes[0]?, argTypes[1]? with
  | some st, some xt =>
    match P.underlying st, P.underlying xt with
    | some (.slice e), some xd =>
      match P.info? e, zero? P e with
      | some i, some z =>
        match srcOf h i.size x with
        | some (n, new) =>
          bif Nat.ble 1 i.size && Nat.beq z.cells.length i.size && Nat.beq new.length (n * i.size) && Nat.ble i.bytes 1048576 && Nat.ble (lenA s + n) 1048576 && !isInt xd then
            appendTo h nx e i.size n new s else none
        | none => none
      | _, _ => none
    | _, _ => none
  | _, _ => none

def makeSliceCase (P : Program) (t : TypeId) (l c : AV) (h : Hp) (nx : Nat) : Option Out :=
  match slice? P t, intOfAV l, intOfAV c with
  | some e, some l, some c => match P.info? e, zero? P e with
    | some i, some z =>
      bif decide (0 ≤ l) && decide (l ≤ c) && decide (c < 1048576) && decide (i.bytes < 1048576) && Nat.beq z.cells.length i.size then
        some (.val (.sl nx 0 l.toNat (.known c.toNat)) (newR h nx e (rep c.toNat z.cells) false 0) (nx + 1)) else none
    | _, _ => none
  | _, _, _ => none

def fieldOf (P : Program) (t : TypeId) (f : Nat) : Option Field :=
  match P.underlying t with
  | some (.struct fs) => fs[f]?
  | _ => none

def indexAddrCase (P : Program) (t : TypeId) (x i : AV) (h : Hp) (nx : Nat) : Option Out :=
  match P.underlying t, x, intOfAV i with
  | some (.array n e), .ptr id off, some i => match size? P e with
    | some s => bif decide (0 ≤ i) && decide (i < n) then some (.val (.ptr id (off + i.toNat * s)) h nx) else none
    | none => none
  | some (.slice e), .sl id off len _, some i => match size? P e with
    | some s => bif decide (0 ≤ i) && decide (i < len) then some (.val (.ptr id (off + i.toNat * s)) h nx) else none
    | none => none
  | _, _, _ => none

def assertCase (P : Program) (x : AV) (asserted : TypeId) (commaOk : Bool) (h : Hp) (nx : Nat) : Option Out :=
  match P.underlying asserted, x with
  | some (.interface want), .iface t v => match P.info? t with
    | some i => match Instr.missingMethod want i.methods with
      | none => some (.val (bif commaOk then .tup [.iface t v, .bool true] else .iface t v) h nx)
      | some _ => bif commaOk then (zero? P asserted).map fun z => .val (.tup [z, .bool false]) h nx else none
    | none => none
  | some d, .nilIface => bif commaOk then (zero? P asserted).map fun z => .val (.tup [z, .bool false]) h nx else none
  | some d, .iface t v =>
    bif Nat.beq t asserted then some (.val (bif commaOk then .tup [v, .bool true] else v) h nx)
    else bif commaOk then (zero? P asserted).map fun z => .val (.tup [z, .bool false]) h nx else none
  | _, _ => none

def lenS : AV → Option Nat
  | .str s => some s.length
  | .nilsl => some 0
  | .esl => some 0
  | .sl _ _ n _ => some n
  | _ => none

/-- The cells of the first elements. -/
def firstC (h : Hp) (size n : Nat) : AV → Option (List AV)
  | .str s => bif Nat.beq size 1 then some ((s.take n).map fun b => .int .u8 b.toNat) else none
  | .nilsl => some []
  | .esl => bif Nat.beq n 0 then some [] else none
  | .sl id off _ _ => loadC h id off (n * size)
  | _ => none

def copyCase (P : Program) (argTypes : Array TypeId) (d s : AV) (h : Hp) (nx : Nat) : Option Out :=
  match argTypes[0]? with
  | some dt => match slice? P dt with
    | some e => match size? P e, lenS s, lenS d with
      | some size, some ls, some ld =>
        match firstC h size (Nat.min ls ld) s, d with
        | some l, .sl id off _ _ => match storeC h id off l with
          | some h => some (.val (.int .i64 (Nat.min ls ld : Nat)) h nx)
          | none => none
        | some _, .nilsl => some (.val (.int .i64 (Nat.min ls ld : Nat)) h nx)
        | _, _ => none
      | _, _, _ => none
    | none => none
  | none => none

def clearCase (P : Program) (argTypes : Array TypeId) (s : AV) (h : Hp) (nx : Nat) : Option Out :=
  match argTypes[0]?, s with
  | some t, .sl id off n _ => match slice? P t with
    | some e => match zero? P e with
      | some z => bif Nat.ble 1 n && Nat.ble 1 z.cells.length then
          match storeC h id off (rep n z.cells) with
          | some h => some (.val (.tup []) h nx)
          | none => none
        else none
      | none => none
    | none => none
  | _, _ => none

/-- The function behind a method of a dynamic type, where nothing is followed. -/
def methodOf (P : Program) (t : TypeId) (name : String) : Option FuncId :=
  match P.info? t with
  | some i => match i.methods.find? (·.name == name) with
    | some m => bif m.path.isEmpty then
        match m.func, P.underlying t with
        | some (f, true), some (.pointer _) => some f
        | some (_, false), some (.pointer _) => none
        | some (f, false), some _ => some f
        | _, _ => none
      else none
    | none => none
  | none => none

/-- Kinds of keys that are compared at once. -/
def plainK : TypeDesc → Bool
  | .int _ | .string | .bool => true
  | _ => false

def structK : TypeDesc → Bool
  | .struct _ => true
  | _ => false

/-- The equality of two keys. -/
def keyEq (P : Program) (kt : TypeId) (kd : TypeDesc) (a b : Value) : Option Bool :=
  bif plainK kd then Instr.sameNow kd a b else bif structK kd then pureOf P (Op.equal kt a b) else none

/-- The place of a key among a map's entries, and what lies there. -/
def findA (P : Program) (kt : TypeId) (kd : TypeDesc) (kv : Value) : List (AV × AV × Nat) → Nat → Option (Option (Nat × AV))
  | [], _ => some none
  | (k, v, _) :: es, i => match toV k with
    | some ek => match keyEq P kt kd kv ek with
      | some true => some (some (i, v))
      | some false => findA P kt kd kv es (i + 1)
      | none => none
    | none => none

def unitOK : Option Unit → Bool
  | some _ => true
  | none => false

def emptyL : List (AV × AV × Nat) → Bool
  | [] => true
  | _ => false

/-- A map's key is known, and where it lies. -/
def keyed (P : Program) (kt : TypeId) (empty : Bool) (es : List (AV × AV × Nat)) (k : AV) : Option (Option (Nat × AV)) :=
  match toV k, P.underlying kt with
  | some kv, some kd => bif (plainK kd || structK kd) && unitOK (pureOf P (Instr.checkKey empty 10000 kt kv)) then findA P kt kd kv es 0 else none
  | _, _ => none

def lookupCase (P : Program) (t : TypeId) (x k : AV) (ok : Bool) (h : Hp) (nx : Nat) : Option Out :=
  match P.underlying t, x with
  | some (.map kt e), .mp id => match h.get id, zero? P e with
    | some (.amap es _), some z => match keyed P kt (emptyL es) es k with
      | some none => some (.val (bif ok then .tup [z, .bool false] else z) h nx)
      | some (some (_, v)) => some (.val (bif ok then .tup [v, .bool true] else v) h nx)
      | none => none
    | _, _ => none
  | _, _ => none

/-- The entries with another value at a place. -/
def setE (k x : AV) : List (AV × AV × Nat) → Nat → Option (AV × List (AV × AV × Nat))
  | [], _ => none
  | (k0, _, n) :: es, 0 => some (k0, (k, x, n) :: es)
  | e :: es, i + 1 => match setE k x es i with
    | some (k0, es) => some (k0, e :: es)
    | none => none

def sameK (a b : AV) : Bool := match toV a, toV b with
  | some x, some y => Instr.sameBits 10000 x y
  | _, _ => false

def mapUpdateCase (P : Program) (t : TypeId) (m k x : AV) (h : Hp) (nx : Nat) : Option Out :=
  match P.underlying t, m with
  | some (.map kt _), .mp id => match h.get id with
    | some (.amap es clk) => match keyed P kt false es k with
      | some none => some (.skip (h.set fuelT id (some (.amap (es ++ [(k, x, clk)]) (clk + 1)))) nx)
      | some (some (i, _)) => match setE k x es i with
        | some (k0, es') => bif sameK k0 k then some (.skip (h.set fuelT id (some (.amap es' clk))) nx) else none
        | none => none
      | none => none
    | _ => none
  | _, _ => none

/-- The function that is called, and what it is given. -/
def calleeCase (P : Program) (f : AV) (args : List AV) : Option Out :=
  match f with
  | .func (.func f) first captured => some (.enter f (first ++ args ++ captured))
  | .func (.method name) first _ => match first ++ args with
    | .iface t v :: rest => match methodOf P t name with
      | some f => some (.enter f (v :: rest))
      | none => none
    | _ => none
  | .func (.via t path f ptr) first _ => match first ++ args with
    | v :: rest => bif path.isEmpty && !ptr then
        match P.underlying t with
        | some (.pointer _) | none => none
        | some _ => some (.enter f (v :: rest))
      else none
    | _ => none
  | _ => none

/-- An empty slice that is not nil, as an empty one. -/
def weakS : AV → AV
  | .nsl => .esl
  | v => v
def weakL : List AV → List AV
  | [] => []
  | a :: l => weakS a :: weakL l

def builtinCase (P : Program) (ρ : Rho) (b : Builtin) (c : Call) (o : Oper) (args : List AV) (h : Hp) (nx : Nat) : Option Out :=
  match b, args with
  | .append, [s, x] => appendCase P c.argTypes s x h nx
  | .copy, [d, s] => copyCase P c.argTypes d s h nx
  | .clear, [s] => clearCase P c.argTypes s h nx
  | .len, [.sl i o n k] => match c.argTypes[0]? with
    | some t => match slice? P t with
      | some _ => some (.val (.int .i64 n) h nx)
      | none => none
    | none => none
  | .len, [.esl] => match c.argTypes[0]? with
    | some t => match slice? P t with
      | some _ => some (.val (.int .i64 (0 : Nat)) h nx)
      | none => none
    | none => none
  | .cap, [.sl i o n (.known k)] => match c.argTypes[0]? with
    | some t => match slice? P t with
      | some _ => some (.val (.int .i64 k) h nx)
      | none => none
    | none => none
  | _, _ => ground P ρ o h nx

def callCase (P : Program) (ρ : Rho) (c : Call) (o : Oper) (h : Hp) (nx : Nat) : Option Out :=
  match valsOf ρ c.args.toList with
  | none => none
  | some args => match c.callee with
    | .value f => match ρ f with
      | some f => calleeCase P f args
      | none => none
    | .invoke r name => match ρ r with
      | some (.iface t v) => match methodOf P t name with
        | some f => some (.enter f (v :: args))
        | none => none
      | _ => none
    | .builtin b => builtinCase P ρ b c o (weakL args) h nx

def nilCase : AV → Option AV
  | .ptr i o => some (.ptr i o)
  | .iface t v => some (.iface t v)
  | .func (.func f) x y => some (.func (.func f) x y)
  | _ => none

def valO (o : Option AV) (h : Hp) (nx : Nat) : Option Out := match o with
  | some v => some (.val v h nx)
  | none => none

def convCase (P : Program) (ρ : Rho) (o : Oper) (src dst : TypeId) (x : AV) (h : Hp) (nx : Nat) : Option Out :=
  match x with
  | .sl id off len c => match P.underlying src, P.underlying dst with
    | some (.slice e), some .string => bif isU8 P e then
        match loadC h id off len with
        | some l => match bytesOf l with
          | some s => some (.val (.str s) h nx)
          | none => none
        | none => none
      else none
    | _, _ => none
  | .esl => match P.underlying src, P.underlying dst with
    | some (.slice e), some .string => bif isU8 P e then some (.val (.str []) h nx) else none
    | _, _ => none
  | .str s => match P.underlying src, P.underlying dst with
    | some .string, some (.slice e) => bif isU8 P e && Nat.ble s.length 1048576 then some (.val (.sl nx 0 s.length (.opn 1)) (newR h nx e (s.map fun b => .int .u8 b.toNat) true 1) (nx + 1)) else none
    | _, _ => ground P ρ o h nx
  | _ => ground P ρ o h nx

def aop (P : Program) (ρ : Rho) (o : Oper) (h : Hp) (nx : Nat) : Option Out :=
  match o.op with
  | .move x => valO (ρ x) h nx
  | .assign x => valO (ρ x) h nx
  | .pick c a b => match ρ c with
    | some (.bool true) => valO (ρ a) h nx
    | some (.bool false) => valO (ρ b) h nx
    | _ => none
  | .alloc t => match zero? P t with
    | some z => some (.val (.ptr nx 0) (newR h nx t z.cells false 0) (nx + 1))
    | none => none
  | .box t x => match ρ x with
    | some v => some (.val (.ptr nx 0) (newR h nx t v.cells false 0) (nx + 1))
    | none => none
  | .build t parts =>
    match zero? P t, valsOf ρ (parts.toList.map (·.2)) with
    | some z, some vs =>
      match P.underlying t with
      | some (.struct fs) => match placesOf P fs.toList with
        | some ps => match fillC (ps[·]?) z.cells ((parts.toList.map (·.1)).zip vs) with
          | some cs => some (.val (.agg cs) h nx)
          | none => none
        | none => none
      | some (.array _ e) => match size? P e with
        | some s => match fillC (fun i => some (i * s, s)) z.cells ((parts.toList.map (·.1)).zip vs) with
          | some cs => some (.val (.agg cs) h nx)
          | none => none
        | none => none
      | _ => none
    | _, _ => none
  | .buildSlice t len parts =>
    match slice? P t with
    | some e => match size? P e, zero? P e, valsOf ρ (parts.toList.map (·.2)) with
      | some s, some z, some vs =>
        bif Nat.ble (len * s) 65536 && Nat.beq z.cells.length s then
          match fillC (fun i => some (i * s, s)) (rep len z.cells) ((parts.toList.map (·.1)).zip vs) with
          | some cs => some (.val (.sl nx 0 len (.known len)) (newR h nx e cs false 0) (nx + 1))
          | none => none
        else none
      | _, _, _ => none
    | none => none
  | .load t a => match ρ a with
    | some (.ptr id off) => valO (loadV P h t id off) h nx
    | _ => none
  | .store t a x => match ρ a, ρ x, size? P t with
    | some (.ptr id off), some v, some s => bif Nat.beq v.cells.length s then
        match storeC h id off v.cells with
        | some h => some (.skip h nx)
        | none => none
      else none
    | _, _, _ => none
  | .nilCheck x => match ρ x with
    | some v => valO (nilCase v) h nx
    | none => none
  | .binOp op t x y _ => match aggs (ρ x) (ρ y) with
    | some (a, b) => match eqAgg P t a b with
      | some r => match op with
        | .eql => some (.val (.bool r) h nx)
        | .neq => some (.val (.bool !r) h nx)
        | _ => none
      | none => ground P ρ o h nx
    | none => match ground P ρ o h nx with
      | some r => some r
      | none => match ρ x, ρ y with
        | some a, some b => match eqAV P t a b with
          | some r => match op with
            | .eql => some (.val (.bool r) h nx)
            | .neq => some (.val (.bool !r) h nx)
            | _ => none
          | none => none
        | _, _ => none
  | .convert src dst x => match ρ x with
    | some v => convCase P ρ o src dst (weakS v) h nx
    | none => none
  | .makeInterface t x => match P.underlying t, ρ x with
    | some (.interface _), _ => none
    | some _, some v => some (.val (.iface t v) h nx)
    | _, _ => none
  | .makeFunc fn first captured => match valsOf ρ first.toList, valsOf ρ captured.toList with
    | some a, some b => some (.val (.func fn a b) h nx)
    | _, _ => none
  | .makeMap _ none => some (.val (.mp nx) (h.set fuelT nx (some (.amap [] 0))) (nx + 1))
  | .makeSlice t l c => match ρ l, ρ c with
    | some l, some c => makeSliceCase P t l c h nx
    | _, _ => none
  | .slice t x lo hi mx => match ρ x with
    | some (.str _) => ground P ρ o h nx
    | some v => match optO ρ lo, optO ρ hi, optO ρ mx with
      | some a, some b, some c => sliceCase P t v a b c h nx
      | _, _, _ => none
    | none => none
  | .fieldAddr t x f => match fieldOf P t f, ρ x with
    | some f, some (.ptr id off) => match size? P f.type with
      | some s => bif Nat.beq s 0 then none else some (.val (.ptr id (off + f.offset)) h nx)
      | none => none
    | _, _ => none
  | .field t x f => match fieldOf P t f, ρ x with
    | some f, some (.agg cs) => valO (partC P f.type cs f.offset) h nx
    | _, _ => none
  | .indexAddr t x i => match ρ x, ρ i with
    | some a, some b => indexAddrCase P t a b h nx
    | _, _ => none
  | .index t x i => match ρ x, ρ i with
    | some (.agg cs), some b => match P.underlying t, intOfAV b with
      | some (.array n e), some i => match size? P e with
        | some s => bif decide (0 ≤ i) && decide (i < n) then valO (partC P e cs (i.toNat * s)) h nx else none
        | none => none
      | _, _ => none
    | _, _ => ground P ρ o h nx
  | .mapUpdate t m k x => match ρ m, ρ k, ρ x with
    | some m, some k, some x => mapUpdateCase P t m k x h nx
    | _, _, _ => none
  | .typeAssert x _ asserted ok => match ρ x with
    | some v => assertCase P v asserted ok h nx
    | none => none
  | .extract t i => match ρ t with
    | some (.tup l) => valO l[i]? h nx
    | _ => none
  | .lookup t x k ok => match ρ x, ρ k with
    | some m, some k => lookupCase P t m k ok h nx
    | _, _ => none
  | .call c => callCase P ρ c o h nx
  | .unOp .. => ground P ρ o h nx
  | _ => none

end
end Go.Proofs.Ytfaocndelibadaa.Ev
