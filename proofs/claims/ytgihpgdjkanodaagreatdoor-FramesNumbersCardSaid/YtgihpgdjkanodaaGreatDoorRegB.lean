/-
  Helper text, several in one; no statement is proved here.
-/
import Derived.WalkKit
import Derived.WalkSpells
import Derived.WalkLawsBesides
import Derived.Lib.Hide
import Derived.Maps.AppendAt
import Derived.Deep.Draws
import Derived.Laws.BytesArg
import Derived.KernelRfl
import Derived.OrdersHeld
import Derived.RegionTactic
namespace Go.Proofs.YtgihpgdjkanodaaGreatDoor
open Go Go.RowKit

/-- A byte as a value. -/
abbrev bv (x : UInt8) : Value := .int .u8 (x.toNat : Int)

/-- The slice with array address A and capacity c reads as the bytes xs in world w; its block lies below B. -/
structure Rd (w : World) (B : Nat) (A : Option Addr) (c : Nat) (xs : List UInt8) : Prop where
  le : xs.length ≤ c
  cap : c ≤ 9223372036854775807
  cells : 0 < xs.length → ∃ b off, A = some ⟨b, off, none⟩ ∧ b < B ∧ ∀ j, j < xs.length → w.cell? ⟨b, off + j, none⟩ = some (bv (xs.getD j 0))

namespace Rd
variable {w w' : World} {B B' c : Nat} {A : Option Addr} {xs : List UInt8}

theorem nil (w : World) (B : Nat) : Rd w B none 0 [] := ⟨Nat.le_refl _, by omega, fun h => absurd h (by simp)⟩
theorem empty (h : c ≤ 9223372036854775807) : Rd w B A c [] := ⟨Nat.zero_le _, h, fun h => absurd h (by simp)⟩
theorem at_ (h : Rd w B A c xs) {k : Nat} (hk : k < xs.length) : ∃ b off, A = some ⟨b, off, none⟩ ∧ b < B ∧ w.cell? ⟨b, off + k, none⟩ = some (bv (xs.getD k 0)) := by
  obtain ⟨b, off, e, hb, hc⟩ := h.cells (by omega)
  exact ⟨b, off, e, hb, hc k hk⟩
theorem keep (h : Rd w B A c xs) (hk : ∀ p : Addr, p.block < B → w'.cell? p = w.cell? p) : Rd w' B A c xs :=
  ⟨h.le, h.cap, fun hn => by
    obtain ⟨b, off, e, hb, hc⟩ := h.cells hn
    exact ⟨b, off, e, hb, fun j hj => (hk _ hb).trans (hc j hj)⟩⟩
theorem more (h : Rd w B A c xs) (hB : B ≤ B') : Rd w B' A c xs :=
  ⟨h.le, h.cap, fun hn => by
    obtain ⟨b, off, e, hb, hc⟩ := h.cells hn
    exact ⟨b, off, e, by omega, hc⟩⟩
theorem below (h : Rd w B A c xs) (hb : Below B w w') : Rd w' B A c xs := h.keep fun _ hp => hb.cell hp
theorem belowTop (h : Rd w w.heap.size A c xs) (hb : Below w.heap.size w w') : Rd w' w'.heap.size A c xs := (h.below hb).more hb.size
theorem drew (h : Rd w B A c xs) : Rd w.drew B A c xs := ⟨h.le, h.cap, h.cells⟩
theorem drewN (h : Rd w B A c xs) (k : Nat) : Rd (w.drewN k) B A c xs := ⟨h.le, h.cap, h.cells⟩
theorem alloc (h : Rd w B A c xs) (hB : B ≤ w.heap.size) (o : Obj) : Rd (w.alloc o) B A c xs := h.keep fun p hp => World.cell?_alloc_lt w o p (by omega)
theorem setCell (h : Rd w B A c xs) {p : Addr} (hB : B ≤ p.block) (u : Value) : Rd (w.setCell p u) B A c xs :=
  h.keep fun q hq => World.cell?_setCell_other w p q u (fun e => by subst e; omega)
theorem grown (h : Rd w B A c xs) {row : Option Nat} (hg : w.grownBy w' row) (hB : B ≤ w.heap.size) (hr : ∀ g, row = some g → B ≤ g) : Rd w' B A c xs :=
  h.keep fun p hp => World.cell?_of_block (hg.block p.block (by omega) (fun e => by have := hr _ e.symm; omega))

theorem of_own {base e : Nat} {v : Value} (h : w.ownsRow base e 1 v xs.length (xs.map bv)) : ∃ A c, v = .slice A xs.length c ∧ Rd w w.heap.size A c xs := by
  obtain ⟨_, h2⟩ := h
  rcases h2 with ⟨rfl, hn⟩ | ⟨g, cap, cur, rfl, _, hh, hle, hm, hcs, ht⟩
  · exact ⟨none, 0, by rw [hn], by rw [List.eq_nil_of_length_eq_zero hn]; exact nil _ _⟩
  · refine ⟨_, _, rfl, hle, by simpa [maxLen] using hm, fun _ => ⟨g, 0, rfl, (Array.getElem?_eq_some_iff.1 hh).1, fun j hj => ?_⟩⟩
    rw [cell_of_row w g (0 + j) cur e (0, 0) hh]
    have hx : (cur.toList.take (xs.length * 1))[j]? = (xs.map bv)[j]? := by rw [ht]
    rw [List.getElem?_take, if_pos (by omega)] at hx
    rw [Nat.zero_add, ← Array.getElem?_toList, hx]
    simp [List.getD, List.getElem?_eq_getElem hj]

/-- A cut x[k:]. -/
theorem drop (h : Rd w B A c xs) {k : Nat} (hk : k ≤ xs.length) : Rd w B (if c = k then A else A.map (·.add k)) (c - k) (xs.drop k) := by
  have hle := h.le
  have hcap := h.cap
  refine ⟨by rw [List.length_drop]; omega, by omega, fun hn => ?_⟩
  rw [List.length_drop] at hn
  obtain ⟨b, off, rfl, hb, hc⟩ := h.cells (by omega)
  rw [if_neg (by omega)]
  refine ⟨b, off + k, by simp [Go.WideShapes.add_plain], hb, fun j hj => ?_⟩
  rw [List.length_drop] at hj
  have := hc (k + j) (by omega)
  rw [Nat.add_assoc, this]
  simp [List.getD, List.getElem?_drop]
/-- A cut x[:k]. -/
theorem take (h : Rd w B A c xs) {k : Nat} (hk : k ≤ xs.length) : Rd w B A c (xs.take k) := by
  have hle := h.le
  refine ⟨by rw [List.length_take]; omega, h.cap, fun hn => ?_⟩
  rw [List.length_take] at hn
  obtain ⟨b, off, rfl, hb, hc⟩ := h.cells (by omega)
  refine ⟨b, off, rfl, hb, fun j hj => ?_⟩
  rw [List.length_take] at hj
  rw [hc j (by omega)]
  have : j < k := by omega
  simp [List.getD, List.getElem?_take, this]

/-- The string of the bytes. -/
theorem str {P : Program} {t e : TypeId} (h : Rd w B A c xs) (hs : P.underlying t = some (.slice e)) (he : P.underlying e = some (.int .u8)) {d : TypeId} (hd : P.underlying d = some .string) :
    (convert t d (.slice A xs.length c)).run P w = .ok (.string ⟨xs.toArray⟩) w := by
  rcases Nat.eq_zero_or_pos xs.length with h0 | h0
  · have hx : xs = [] := List.eq_nil_of_length_eq_zero h0
    subst hx
    have hl : ∀ a : Option Addr, (Conv.bytesToString (.slice a 0 c)).run P w = .ok (.string ByteArray.empty) w := by
      intro a
      rcases a with _ | a
      · simp [Conv.bytesToString]
      · have := run_bytesToString (P := P) w a 0 c [] (by simpa using run_loadCells_list (P := P) w a [] (fun j v hj => by simp at hj))
        simpa using this
    rw [List.length_nil, run_convert_bytes_string w t d e A 0 c hs he hd, hl]
    rfl
  · obtain ⟨b, off, rfl, _, hc⟩ := h.cells h0
    have := run_convert_bytes_arg (P := P) w t e hs he b off xs.length c (xs.map fun x => (x.toNat : Int)) (by simp) (fun i hi => by
      rw [hc i hi]
      simp [List.getD, List.getElem?_eq_getElem hi]) d hd
    rw [this]
    congr 3
    simp [strOfNums, Function.comp_def]
end Rd

/-- The string of bytes. -/
abbrev strOf (xs : List UInt8) : Value := .string ⟨xs.toArray⟩

/-- One slice of bytes is returned; what was there is as it was. -/
def Res1 (w : World) (ys : List UInt8) (e : Ending) (w' : World) : Prop :=
  ∃ A c, e = .returned (.slice A ys.length c) ∧ Rd w' w'.heap.size A c ys ∧ Below w.heap.size w w'
/-- A slice of bytes and an error number are returned. -/
def ResE (w : World) (ys : List UInt8) (n : Int) (e : Ending) (w' : World) : Prop :=
  ∃ A c, e = .returned (.tuple #[.slice A ys.length c, .int .i64 n]) ∧ Rd w' w'.heap.size A c ys ∧ Below w.heap.size w w'
/-- A slice of the call's own is returned: its elements have type t. -/
def ResO (w : World) (t : Nat) (ys : List UInt8) (e : Ending) (w' : World) : Prop :=
  ∃ v, e = .returned v ∧ w'.ownsRow w.heap.size t 1 v ys.length (ys.map bv) ∧ Below w.heap.size w w'
theorem ResO.to1 {w w' : World} {t : Nat} {ys : List UInt8} {e : Ending} (h : ResO w t ys e w') : Res1 w ys e w' := by
  obtain ⟨v, rfl, h2, h3⟩ := h
  obtain ⟨A, c, rfl, hr⟩ := Rd.of_own h2
  exact ⟨A, c, rfl, hr, h3⟩
/-- .. and an error number. -/
def ResOE (w : World) (t : Nat) (ys : List UInt8) (n : Int) (e : Ending) (w' : World) : Prop :=
  ∃ v, e = .returned (.tuple #[v, .int .i64 n]) ∧ w'.ownsRow w.heap.size t 1 v ys.length (ys.map bv) ∧ Below w.heap.size w w'
theorem ResOE.toE {w w' : World} {t : Nat} {ys : List UInt8} {n : Int} {e : Ending} (h : ResOE w t ys n e w') : ResE w ys n e w' := by
  obtain ⟨v, rfl, h2, h3⟩ := h
  obtain ⟨A, c, rfl, hr⟩ := Rd.of_own h2
  exact ⟨A, c, rfl, hr, h3⟩
theorem own_base {w : World} {base base' t : Nat} {v : Value} {n : Nat} {vs : List Value} (h : w.ownsRow base t 1 v n vs) (hb : base' ≤ base) : w.ownsRow base' t 1 v n vs := by
  obtain ⟨h1, h2⟩ := h
  rcases h2 with h2 | ⟨g, cap, cur, hv, hg, r⟩
  · exact ⟨h1, .inl h2⟩
  · exact ⟨h1, .inr ⟨g, cap, cur, hv, Nat.le_trans hb hg, r⟩⟩
theorem own_below {w w' : World} {base t : Nat} {v : Value} {n : Nat} {vs : List Value} (h : w.ownsRow base t 1 v n vs) (hb : Below w.heap.size w w') : w'.ownsRow base t 1 v n vs :=
  h.kept ⟨hb.os, hb.tape, hb.output, hb.size, fun k hk _ => hb.block k hk⟩ (show v.ownBlock = none ∨ v.ownBlock ≠ none by cases v.ownBlock <;> simp)
/-- A slice of the call's own that is not empty: where it lies; a store into it. -/
theorem own_store {w : World} {base t : Nat} {v : Value} {xs : List UInt8} (h : w.ownsRow base t 1 v xs.length (xs.map bv)) (hn : 0 < xs.length) :
    ∃ g c, v = .slice (some ⟨g, 0, none⟩) xs.length c ∧ base ≤ g ∧ (∀ i, w.frozen? ⟨g, i, none⟩ = false) ∧ (∀ i, i < xs.length → w.cell? ⟨g, i, none⟩ = some (bv (xs.getD i 0))) ∧
      ∀ (i : Nat) (y : UInt8), i < xs.length → (w.setCell ⟨g, i, none⟩ (bv y)).ownsRow base t 1 v (xs.set i y).length ((xs.set i y).map bv) := by
  obtain ⟨_, h2⟩ := h
  rcases h2 with ⟨_, h0⟩ | ⟨g, cap, cur, rfl, hg, hh, hle, hm, hcs, ht⟩
  · omega
  · refine ⟨g, cap, rfl, hg, fun i => by simp [World.frozen?, hh], fun i hi => ?_, fun i y hi => ?_⟩
    · rw [cell_of_row w g i cur t (0, 0) hh]
      have hx : (cur.toList.take (xs.length * 1))[i]? = (xs.map bv)[i]? := by rw [ht]
      rw [List.getElem?_take, if_pos (by omega)] at hx
      rw [← Array.getElem?_toList, hx]
      simp [List.getD, List.getElem?_eq_getElem hi]
    · refine ⟨by simp, .inr ⟨g, cap, cur.setIfInBounds i (bv y), by simp, hg, by simp [World.setCell, Array.getElem?_modify, hh], by simpa using hle, hm, by simpa using hcs, ?_⟩⟩
      rw [List.length_set, Array.toList_setIfInBounds, List.take_set, ht, List.map_set]
theorem Rd.of_own_at {w : World} {base t : Nat} {A : Option Addr} {n c : Nat} {xs : List UInt8} (h : w.ownsRow base t 1 (.slice A n c) xs.length (xs.map bv)) : Rd w w.heap.size A c xs := by
  obtain ⟨A', c', e, hr⟩ := Rd.of_own h
  injection e with e1 e2 e3
  subst e1; subst e3
  exact hr
/-- As ResE, and the slice lies in new memory. -/
def ResF (w : World) (ys : List UInt8) (n : Int) (e : Ending) (w' : World) : Prop :=
  ∃ A c, e = .returned (.tuple #[.slice A ys.length c, .int .i64 n]) ∧ Rd w' w'.heap.size A c ys ∧ Below w.heap.size w w' ∧ ∀ ad, A = some ad → w.heap.size ≤ ad.block
theorem ResF.toE {w w' : World} {ys : List UInt8} {n : Int} {e : Ending} (h : ResF w ys n e w') : ResE w ys n e w' := by
  obtain ⟨A, c, h1, h2, h3, _⟩ := h
  exact ⟨A, c, h1, h2, h3⟩
theorem none_new {B : Nat} : ∀ ad : Addr, (none : Option Addr) = some ad → B ≤ ad.block := fun _ h => by cases h
/-- A truth value is returned; what was there is as it was. -/
def ResB (w : World) (b : Bool) (e : Ending) (w' : World) : Prop := e = .returned (.bool b) ∧ Below w.heap.size w w'

theorem bcell {w w1 : World} {B : Nat} (hb : Below B w w1) : (∀ b o, b < B → w1.cell? ⟨b, o, none⟩ = w.cell? ⟨b, o, none⟩) ∧ (∀ b o, b < B → w1.frozen? ⟨b, o, none⟩ = w.frozen? ⟨b, o, none⟩) :=
  ⟨fun b o h => hb.cell (p := ⟨b, o, none⟩) h, fun b o h => hb.frozen (p := ⟨b, o, none⟩) h⟩

theorem take_snoc (xs : List UInt8) {k : Nat} (h : k < xs.length) : xs.take (k + 1) = xs.take k ++ [xs.getD k 0] := by
  rw [List.take_add_one, List.getElem?_eq_getElem h]
  simp [List.getD, List.getElem?_eq_getElem h]

/-- Behind an append of one byte: the relation of the loop. -/
theorem own_snoc {w : World} {base e : Nat} {v : Value} {xs : List UInt8} {x : UInt8} {u : Value} (hu : u = bv x) (h : w.ownsRow base e 1 v (xs.length + 1) (xs.map bv ++ [u])) :
    w.ownsRow base e 1 v (xs ++ [x]).length ((xs ++ [x]).map bv) := by
  subst hu
  simpa using h

/-- append of one byte to a slice of the call's own. -/
theorem wpl_append1 {P : Program} {ops : Array Oper} {rest : List Oper} {o : Oper} {a : Act} {Q : Exit → Act → World → Prop} {w : World} {t e : TypeId} (ht : P.underlying t = some (.slice e))
    (hinf : (P.info? e).map (fun i => (i.zero, i.size, i.bytes)) = some (some (.int .u8 0), 1, 1)) (hgd : o.guard = none) (s x : Operand)
    (ho : o.op = .call { callee := .builtin .append, args := #[s, x], argTypes := #[t, t] })
    (base : Nat) (v : Value) (zs : List UInt8) (hs : a.eval s = v) (hown : w.ownsRow base e 1 v zs.length (zs.map bv)) (y : UInt8) (u : Value) (hu : u = bv y)
    (hx : a.eval x = .slice (some ⟨w.heap.size, 0, none⟩) 1 1) (hl : zs.length ≤ 1000000000) (hbase : base ≤ w.heap.size)
    (h : ∀ v' w', w'.ownsRow base e 1 v' (zs ++ [y]).length ((zs ++ [y]).map bv) → Below base w w' → wpList P ops Q rest (a.put o.dst v') w') :
    wpList P ops Q (o :: rest) a (w.alloc (.cells #[u] e)) := by
  obtain ⟨i0, hi, hz0, hz1, hz2⟩ := info_parts hinf
  refine wpList_append_own _ hgd s x t ho base e i0 (.int .u8 0) 1 1 ht hi hz0 hz1 hz2 rfl (by decide) v zs.length (zs.map bv) hs (hown.alloc _) ⟨w.heap.size, 0, none⟩ 1 1 [u] hx rfl (cell_one_new _ _ _)
    (fun z hz => by simp at hz; subst hz; subst hu; rfl) (by unfold maxLen; omega) (by omega) (by simp; omega) fun v' w' h1 h2 _ => h v' w' (own_snoc hu h1) ?_
  exact ((Below.refl base w).alloc hbase _).grown h2 (by simp; omega) fun k hk => (hown.lt k hk).1

/-- The cells that make lays: n zeros. -/
theorem madeZero (n : Nat) : madeCells #[.int .u8 0] n = ((List.replicate n (0 : UInt8)).map bv).toArray := by
  apply Array.ext
  · simp [size_madeCells]
  · intro i h1 h2
    simp [madeCells, Nat.mod_one]

/-- Block g holds just these bytes, as elements of type t; none is frozen. -/
def Row (w : World) (g t : Nat) (ys : List UInt8) : Prop := w.heap[g]? = some (.cells (ys.map bv).toArray t (0, 0))
namespace Row
variable {w w' : World} {g t : Nat} {ys : List UInt8}
theorem lt (h : Row w g t ys) : g < w.heap.size := (Array.getElem?_eq_some_iff.1 h).1
theorem cell (h : Row w g t ys) {i : Nat} (hi : i < ys.length) : w.cell? ⟨g, i, none⟩ = some (bv (ys.getD i 0)) := by
  rw [cell_of_row w g i _ t (0, 0) h]
  simp [List.getD, List.getElem?_eq_getElem hi]
theorem frozen (h : Row w g t ys) (i : Nat) : w.frozen? ⟨g, i, none⟩ = false := by
  unfold Row at h
  simp [World.frozen?, h]
theorem made (w : World) (n t : Nat) : Row (w.alloc (.cells (madeCells #[.int .u8 0] n) t)) w.heap.size t (List.replicate n 0) := by
  unfold Row
  rw [madeZero]
  exact heap_alloc_new w _
theorem set (h : Row w g t ys) (i : Nat) {y : UInt8} {u : Value} (hu : u = bv y) : Row (w.setCell ⟨g, i, none⟩ u) g t (ys.set i y) := by
  subst hu
  unfold Row at h ⊢
  simp [World.setCell, Array.getElem?_modify, h]
theorem drew (h : Row w g t ys) : Row w.drew g t ys := h
theorem drewN (h : Row w g t ys) (n : Nat) : Row (w.drewN n) g t ys := h
theorem alloc (h : Row w g t ys) (o : Obj) : Row (w.alloc o) g t ys := (Below.heap_alloc w o g h.lt).trans h
theorem below {B : Nat} (h : Row w g t ys) (hb : Below B w w') (hg : g < B) : Row w' g t ys := (hb.block g hg).trans h
theorem rd (h : Row w g t ys) (hl : ys.length ≤ 1000000000) : Rd w w.heap.size (some ⟨g, 0, none⟩) ys.length ys :=
  ⟨Nat.le_refl _, by omega, fun _ => ⟨g, 0, rfl, h.lt, fun j hj => by rw [Nat.zero_add]; exact h.cell hj⟩⟩
end Row

/-- A list of n bytes of which the first k are filled by F. -/
def fillL (n k : Nat) (F : Nat → UInt8) : List UInt8 := (List.range n).map fun j => if j < k then F j else 0
theorem fillL_len (n k : Nat) (F : Nat → UInt8) : (fillL n k F).length = n := by simp [fillL]
theorem fillL_zero (n : Nat) (F : Nat → UInt8) : fillL n 0 F = List.replicate n 0 := by
  apply List.ext_getElem <;> simp [fillL]
theorem fillL_full (n : Nat) (F : Nat → UInt8) : fillL n n F = (List.range n).map F := by
  apply List.ext_getElem
  · simp [fillL]
  · intro i h1 h2
    simp [fillL] at h1 ⊢
    intro h; omega
theorem fillL_set (n k : Nat) (F : Nat → UInt8) : (fillL n k F).set k (F k) = fillL n (k + 1) F := by
  apply List.ext_getElem
  · simp [fillL]
  · intro i h1 h2
    simp only [fillL, List.length_set, List.length_map, List.length_range] at h1
    rw [List.getElem_set]
    simp only [fillL, List.getElem_map, List.getElem_range]
    by_cases e : k = i
    · subst e; simp
    · rw [if_neg e]
      by_cases hl : i < k
      · rw [if_pos hl, if_pos (by omega)]
      · rw [if_neg hl, if_neg (by omega)]
theorem fillL_at (n k : Nat) (F : Nat → UInt8) : (fillL n k F).getD k 0 = 0 := by
  rcases Nat.lt_or_ge k n with h | h
  · simp [fillL, List.getD, h]
  · simp [fillL, List.getD, h]
theorem fillL_set0 (n k : Nat) (F : Nat → UInt8) : (fillL n k F).set k 0 = fillL n k F := by
  apply List.ext_getElem
  · simp
  · intro i h1 h2
    rw [List.getElem_set]
    split
    · rename_i e; subst e
      simp [fillL]
    · rfl

/-- append of nothing (nil, of whatever capacity) to a slice of the call's own. -/
theorem run_append_nil {P : Program} {w : World} {base t ty e : Nat} {i : TypeInfo} {v : Value} {n : Nat} {vs : List Value} (ht : P.underlying t = some (.slice e)) (hi : P.info? e = some i)
    (hown : w.ownsRow base e 1 v n vs) (c : Nat) : (Builtin.append_ #[t, t] ty #[v, .slice none 0 c]).run P w = .ok v w := by
  obtain ⟨_, h2⟩ := hown
  rcases h2 with ⟨rfl, _⟩ | ⟨g, cap, cur, rfl, _, _, hle, _⟩
  · simp [Builtin.append_, run_underlying ht, sizeOf, typeInfo, hi, Builtin.lenOf, Builtin.firstCells]
  · simp [Builtin.append_, run_underlying ht, sizeOf, typeInfo, hi, Builtin.lenOf, Builtin.firstCells, hle, storeCells]

/-- append of a slice of bytes that reads as ys to a slice of the call's own: the run. -/
theorem run_appendN {P : Program} {w : World} {t ty e : TypeId} (ht : P.underlying t = some (.slice e))
    (hinf : (P.info? e).map (fun i => (i.zero, i.size, i.bytes)) = some (some (.int .u8 0), 1, 1))
    (base : Nat) (v : Value) (zs : List UInt8) (hown : w.ownsRow base e 1 v zs.length (zs.map bv)) (B c : Nat) (A : Option Addr) (ys : List UInt8) (hr : Rd w B A c ys)
    (hl : zs.length + ys.length ≤ 1000000000) (hbase : base ≤ w.heap.size) :
    ∃ v' w', (Builtin.append_ #[t, t] ty #[v, .slice A ys.length c]).run P w = .ok v' w' ∧ w'.ownsRow base e 1 v' (zs ++ ys).length ((zs ++ ys).map bv) ∧ Below base w w' ∧ w.grownBy w' v.ownBlock ∧ (v'.ownBlock = v.ownBlock ∨ v'.ownBlock = some w.heap.size) := by
  obtain ⟨i0, hi, hz0, hz1, hz2⟩ := info_parts hinf
  rcases A with _ | ad
  · have hn : ys = [] := by
      rcases Nat.eq_zero_or_pos ys.length with h0 | h0
      · exact List.eq_nil_of_length_eq_zero h0
      · obtain ⟨b, off, e', _⟩ := hr.cells h0
        cases e'
    subst hn
    exact ⟨v, w, run_append_nil (P := P) (w := w) (ty := ty) ht hi hown c, by simpa using hown, Below.refl _ _, World.grownBy.refl w _, .inl rfl⟩
  · have hnews : ∀ j u, (ys.map bv)[j]? = some u → w.cell? (ad.add j) = some u := by
      intro j u hu
      rw [List.getElem?_map] at hu
      rcases Nat.lt_or_ge j ys.length with hj | hj
      · obtain ⟨b, off, e', _, hc⟩ := hr.cells (by omega)
        obtain rfl := Option.some.inj e'
        rw [Go.WideShapes.add_plain, hc j hj]
        rw [List.getElem?_eq_getElem hj] at hu
        simpa [List.getD, List.getElem?_eq_getElem hj] using hu
      · rw [List.getElem?_eq_none hj] at hu
        cases hu
    obtain ⟨v', w', h0, h1, h2, _, h4⟩ := run_append_own_at (P := P) w base t ty e i0 (.int .u8 0) 1 1 ht hi hz0 hz1 hz2 rfl (by decide) v zs.length (zs.map bv) hown ad ys.length c (ys.map bv) (by simp) hnews
      (fun z hz => by obtain ⟨_, _, rfl⟩ := List.mem_map.1 hz; rfl) (by unfold maxLen; omega) (by omega) hbase
    exact ⟨v', w', h0, by simpa using h1, (Below.refl base w).grown h2 hbase fun k hk => (hown.lt k hk).1, h2, h4⟩
/-- .. at the operation. -/
theorem wp_appendN {P : Program} {o : Oper} {a : Act} {K : Act → World → Prop} {Q : Exit → Act → World → Prop} {w : World} {t e : TypeId} (ht : P.underlying t = some (.slice e))
    (hinf : (P.info? e).map (fun i => (i.zero, i.size, i.bytes)) = some (some (.int .u8 0), 1, 1)) (s x : Operand)
    (ho : o.op = .call { callee := .builtin .append, args := #[s, x], argTypes := #[t, t] })
    (base : Nat) (v : Value) (zs : List UInt8) (hs : a.eval s = v) (hown : w.ownsRow base e 1 v zs.length (zs.map bv)) (B c : Nat) (A : Option Addr) (ys : List UInt8) (hr : Rd w B A c ys)
    (hx : a.eval x = .slice A ys.length c) (hl : zs.length + ys.length ≤ 1000000000) (hbase : base ≤ w.heap.size)
    (h : ∀ v' w', w'.ownsRow base e 1 v' (zs ++ ys).length ((zs ++ ys).map bv) → Below base w w' → w.grownBy w' v.ownBlock → (v'.ownBlock = v.ownBlock ∨ v'.ownBlock = some w.heap.size) → K (a.put o.dst v') w') :
    o.wp P a w K Q := by
  obtain ⟨v', w', h0, h1, h2, h3, h4⟩ := run_appendN (P := P) (ty := o.type) ht hinf base v zs hown B c A ys hr hl hbase
  unfold Oper.wp execOp
  simp only [ho, resolve, invoke, builtin, Sem.run_bind, Sem.run_pure, Result.andThen_ok, List.map_toArray, List.map_cons, List.map_nil, hs, hx, h0]
  exact h v' w' h1 h2 h3 h4
/-- .. at the list of a region's operations. -/
theorem wpl_appendN {P : Program} {ops : Array Oper} {rest : List Oper} {o : Oper} {a : Act} {Q : Exit → Act → World → Prop} {w : World} {t e : TypeId} (ht : P.underlying t = some (.slice e))
    (hinf : (P.info? e).map (fun i => (i.zero, i.size, i.bytes)) = some (some (.int .u8 0), 1, 1)) (hgd : o.guard = none) (s x : Operand)
    (ho : o.op = .call { callee := .builtin .append, args := #[s, x], argTypes := #[t, t] })
    (base : Nat) (v : Value) (zs : List UInt8) (hs : a.eval s = v) (hown : w.ownsRow base e 1 v zs.length (zs.map bv)) (B c : Nat) (A : Option Addr) (ys : List UInt8) (hr : Rd w B A c ys)
    (hx : a.eval x = .slice A ys.length c) (hl : zs.length + ys.length ≤ 1000000000) (hbase : base ≤ w.heap.size)
    (h : ∀ v' w', w'.ownsRow base e 1 v' (zs ++ ys).length ((zs ++ ys).map bv) → Below base w w' → wpList P ops Q rest (a.put o.dst v') w') :
    wpList P ops Q (o :: rest) a w :=
  wpList_plain hgd fun _ hK => wp_appendN ht hinf s x ho base v zs hs hown B c A ys hr hx hl hbase fun v' w' h1 h2 _ _ => hK _ _ (h v' w' h1 h2)
/-- .. at a step of a region that draws its order. -/
theorem step_appendN {P : Program} {ops : Array Oper} {o : Oper} {a : Act} {K : Act → World → Prop} {Q : Exit → Act → World → Prop} {E : Prop} {w : World} {t e : TypeId} (ht : P.underlying t = some (.slice e))
    (hinf : (P.info? e).map (fun i => (i.zero, i.size, i.bytes)) = some (some (.int .u8 0), 1, 1)) (hgd : o.guard = none) (s x : Operand)
    (ho : o.op = .call { callee := .builtin .append, args := #[s, x], argTypes := #[t, t] })
    (base : Nat) (v : Value) (zs : List UInt8) (hs : a.eval s = v) (hown : w.ownsRow base e 1 v zs.length (zs.map bv)) (B c : Nat) (A : Option Addr) (ys : List UInt8) (hr : Rd w B A c ys)
    (hx : a.eval x = .slice A ys.length c) (hl : zs.length + ys.length ≤ 1000000000) (hbase : base ≤ w.heap.size)
    (h : ∀ v' w', w'.ownsRow base e 1 v' (zs ++ ys).length ((zs ++ ys).map bv) → Below base w w' → w.grownBy w' v.ownBlock → (v'.ownBlock = v.ownBlock ∨ v'.ownBlock = some w.heap.size) → K (a.put o.dst v') w') :
    if Region.wanted o (yielded ops a.tmps) = true then Oper.wp P o a w K Q else E := by
  have hw : Region.wanted o (yielded ops a.tmps) = true := by simp [Region.wanted, hgd]
  rw [if_pos hw]
  exact wp_appendN ht hinf s x ho base v zs hs hown B c A ys hr hx hl hbase h
/-- A row that the call has just built. -/
theorem own_built (w : World) (e : TypeId) (zs : List UInt8) (hl : zs.length ≤ 1000000000) : (w.alloc (.cells (zs.map bv).toArray e)).ownsRow w.heap.size e 1 (.slice (some ⟨w.heap.size, 0, none⟩) zs.length zs.length) zs.length (zs.map bv) :=
  ⟨by simp, .inr ⟨w.heap.size, zs.length, _, rfl, Nat.le_refl _, heap_alloc_new w _, Nat.le_refl _, by unfold maxLen; omega, by simp, by simp; rw [List.take_of_length_le (by simp)]⟩⟩
theorem rd_built (w : World) (e : TypeId) (zs : List UInt8) (hl : zs.length ≤ 1000000000) : Rd (w.alloc (.cells (zs.map bv).toArray e)) (w.heap.size + 1) (some ⟨w.heap.size, 0, none⟩) zs.length zs :=
  ((Row.rd (w := w.alloc (.cells (zs.map bv).toArray e)) (heap_alloc_new w _) hl)).more (by simp)
theorem Rd.clip {w : World} {B c : Nat} {A : Option Addr} {xs : List UInt8} (h : Rd w B A c xs) : Rd w B A xs.length xs := ⟨Nat.le_refl _, by have := h.le; have := h.cap; omega, h.cells⟩

/-- A cut x[lo:hi]. -/
theorem Rd.cut {w : World} {B c : Nat} {A : Option Addr} {xs : List UInt8} (h : Rd w B A c xs) {lo hi : Nat} (h1 : lo ≤ hi) (h2 : hi ≤ xs.length) :
    ∃ A' c', sliced A lo hi c 1 = .slice A' (hi - lo) c' ∧ Rd w B A' c' ((xs.take hi).drop lo) := by
  have h3 := (h.take h2).drop (k := lo) (by rw [List.length_take]; omega)
  exact ⟨_, _, by simp [sliced], h3⟩

end Go.Proofs.YtgihpgdjkanodaaGreatDoor

namespace Go.Proofs.YtgihpgdjkanodaaGreatDoor
open Go Go.RowKit

/-- The world has only grown. -/
def Gr (w w' : World) : Prop := Below w.heap.size w w'
theorem Gr.refl (w : World) : Gr w w := Below.refl _ _
theorem Gr.trans {a b c : World} (h : Gr a b) (k : Gr b c) : Gr a c := Below.trans h (Below.mono k h.size)
theorem Gr.drew (w : World) : Gr w w.drew := (Below.refl _ w).drew

section
variable {P : Program} {ops : Array Oper} {Q : Exit → Act → World → Prop} {md : Region.Mode}

theorem yieldsIf_mono {S T : World → Prop} {o : Oper} {v : Value} {a : Act} (h : YieldsIf P ops S o v a) (hST : ∀ w, T w → S w) : YieldsIf P ops T o v a := by
  rcases h with ⟨h1, h2⟩ | h
  · exact .inl ⟨h1, fun w hw => h2 w (hST w hw)⟩
  · exact .inr h

/-- Whatever comes up next, and behind it the world has only grown. -/
def wpAnyG (P : Program) (md : Region.Mode) (ops : Array Oper) (Q : Exit → Act → World → Prop) : Nat → Array Bool → Act → World → Prop
  | 0, l, a, w => Region.ready md ops l = [] ∧ Q .normal a w
  | n + 1, l, a, w => (Region.ready md ops l = [] → Q .normal a w) ∧
      ∀ i ∈ Region.ready md ops l, wpOp P ops Q i (fun a' w' => Gr w w' ∧ wpAnyG P md ops Q n (l.setIfInBounds i true) a' w') a w

theorem wpAny_of_G (n : Nat) : ∀ (l : Array Bool) (a : Act) (w : World), wpAnyG P md ops Q n l a w → wpAny P md ops Q n l a w := by
  induction n with
  | zero => exact fun _ _ _ h => h
  | succ n ih => exact fun l a w h => ⟨h.1, fun i hi => wpOp_mono (fun a' w' hh => ih _ a' w' hh.2) (h.2 i hi)⟩

theorem wpAnyG_first {i : Nat} {oi : Oper} {v : Value} (hi : ops[i]? = some oi) (hsel : ∀ (j : Nat) (o : Oper) cs b, ops[j]? = some o → o.op ≠ .select cs b)
    (hQ : ∀ c a w, Q (.panic c) (a.put oi.dst v) w → Q (.panic c) a w) (n : Nat) : ∀ (l : Array Bool) (a : Act) (w : World),
      (∀ j oj, ops[j]? = some oj → j ≠ i → l.getD j true = false → (∀ e ∈ oj.after, Region.binds md e = true → e.on ≠ i) → oi.apart ops oj = true) →
      i ∈ Region.ready md ops l → YieldsIf P ops (Gr w) oi v a → wpAnyG P md ops Q n (l.setIfInBounds i true) (a.put oi.dst v) w → wpAnyG P md ops Q (n + 1) l a w := by
  induction n with
  | zero =>
    intro l a w _ hr hy H
    refine ⟨fun h => (by rw [h] at hr; cases hr), fun j hj => ?_⟩
    by_cases e : j = i
    · rw [e]
      exact hy.wpOp hi (Gr.refl w) ⟨Gr.refl w, H⟩
    · have h0 := ready_mono hj e
      rw [H.1] at h0
      cases h0
  | succ n ih =>
    intro l a w hfree hr hy H
    refine ⟨fun h => (by rw [h] at hr; cases hr), fun j hj => ?_⟩
    by_cases e : j = i
    · rw [e]
      exact hy.wpOp hi (Gr.refl w) ⟨Gr.refl w, H⟩
    · have h1 := H.2 j (ready_mono hj e)
      obtain ⟨hun, oj, hoj, hall⟩ := mem_ready.1 hj
      have hiu := (mem_ready.1 hr).1
      have hnot : ∀ x ∈ oj.after, Region.binds md x = true → x.on ≠ i := by
        intro x hx hb hh
        have hl := hall x hx hb
        rw [hh] at hl
        rcases Nat.lt_or_ge i l.size with hlt | hge
        · simp [hlt] at hiu hl
          rw [hiu] at hl
          cases hl
        · simp [Array.getElem?_eq_none hge] at hl
      have h2 := wpOp_putIf hoj (hfree j oj hoj e hun hnot) (fun cs b => hsel i oi cs b hi) (fun cs b => hsel j oj cs b hoj) hQ hy h1
      refine wpOp_mono (fun a' w' h3 => ⟨h3.2.1, ?_⟩) h2
      refine ih (l.setIfInBounds j true) a' w' (fun k ok hk hki hku hno => ?_) (ready_mono hr (Ne.symm e)) (yieldsIf_mono h3.1 fun _ hg => h3.2.1.trans hg) ?_
      · refine hfree k ok hk hki ?_ hno
        by_cases ejk : j = k
        · rw [← ejk]; exact hun
        · rw [getD_set_ne true ejk] at hku; exact hku
      · rw [Array.setIfInBounds_comm _ _ e]
        exact h3.2.2

/-- Operation number i yields v in every world that this one may grow to: it is taken first. -/
theorem takeG (i : Nat) {lst : List Oper} {oi : Oper} {v : Value} {n : Nat} {l : Array Bool} {a : Act} {w : World} (hi : lst[i]? = some oi)
    (hs : Region.noSelect lst.toArray = true) (hf : Region.free md lst.toArray l i = true) (hr : (Region.ready md lst.toArray l).contains i = true)
    (hQ : ∀ c a w, Q (.panic c) (a.put oi.dst v) w → Q (.panic c) a w) (hy : YieldsIf P lst.toArray (Gr w) oi v a)
    (h : wpAnyG P md lst.toArray Q n (l.setIfInBounds i true) (a.put oi.dst v) w) : wpAnyG P md lst.toArray Q (n + 1) l a w :=
  have hi' : lst.toArray[i]? = some oi := by simpa using hi
  wpAnyG_first hi' (Region.noSelect_spec hs) hQ n l a w (Region.free_spec hi' hf) (by simpa using hr) hy h
/-- Operation number i alone may come up. -/
theorem stepG (i : Nat) {lst : List Oper} {oi : Oper} {n : Nat} {l : Array Bool} {a : Act} {w : World} (hi : lst[i]? = some oi) (hr : Region.ready md lst.toArray l = [i]) (hw : Region.wanted oi (yielded lst.toArray a.tmps) = true)
    (h : ∀ K : Act → World → Prop, (∀ a' w', Gr w w' → wpAnyG P md lst.toArray Q n (l.setIfInBounds i true) a' w' → K a' w') → oi.wp P a w K Q) : wpAnyG P md lst.toArray Q (n + 1) l a w := by
  have hi' : lst.toArray[i]? = some oi := by simpa using hi
  refine ⟨fun h0 => (by rw [hr] at h0; cases h0), fun j hj => ?_⟩
  rw [hr] at hj
  obtain rfl : j = i := by simpa using hj
  unfold wpOp
  simp only [hi', hw, if_true]
  exact .inl (h _ fun a' w' h1 h2 => ⟨h1, h2⟩)
/-- All have come up. -/
theorem doneG {n : Nat} {l : Array Bool} {a : Act} {w : World} (hr : Region.ready md ops l = []) (h : Q .normal a w) : wpAnyG P md ops Q n l a w := by
  cases n with
  | zero => exact ⟨hr, h⟩
  | succ n => exact ⟨fun _ => h, by rw [hr]; simp⟩
/-- The beginning. -/
theorem startG (n : Nat) {id : Nat} {a : Act} {w : World} {l : Array Bool} (hm : P.follows .mixedOrders = true) (hn : ops.size = n) (hl : Array.replicate n false = l) (h : wpAnyG P .any ops Q n l a w.drew) : (Code.region id ops true).wp P Q a w := by
  subst hn; subst hl
  exact wp_region_any hm (wpAny_of_G _ _ _ _ h)
end

end Go.Proofs.YtgihpgdjkanodaaGreatDoor

namespace Go.Proofs.YtgihpgdjkanodaaGreatDoor
open Go Go.RowKit

section
variable {B : Nat} {P : Program} {ops : Array Oper} {Q : Exit → Act → World → Prop} {md : Region.Mode}

/-- Whatever comes up next, and behind it the world has only grown. -/
def wpAnyB (B : Nat) (P : Program) (md : Region.Mode) (ops : Array Oper) (Q : Exit → Act → World → Prop) : Nat → Array Bool → Act → World → Prop
  | 0, l, a, w => Region.ready md ops l = [] ∧ Q .normal a w
  | n + 1, l, a, w => (Region.ready md ops l = [] → Q .normal a w) ∧
      ∀ i ∈ Region.ready md ops l, wpOp P ops Q i (fun a' w' => Below B w w' ∧ wpAnyB B P md ops Q n (l.setIfInBounds i true) a' w') a w

theorem wpAny_of_B (n : Nat) : ∀ (l : Array Bool) (a : Act) (w : World), wpAnyB B P md ops Q n l a w → wpAny P md ops Q n l a w := by
  induction n with
  | zero => exact fun _ _ _ h => h
  | succ n ih => exact fun l a w h => ⟨h.1, fun i hi => wpOp_mono (fun a' w' hh => ih _ a' w' hh.2) (h.2 i hi)⟩

theorem wpAnyB_first {i : Nat} {oi : Oper} {v : Value} (hi : ops[i]? = some oi) (hsel : ∀ (j : Nat) (o : Oper) cs b, ops[j]? = some o → o.op ≠ .select cs b)
    (hQ : ∀ c a w, Q (.panic c) (a.put oi.dst v) w → Q (.panic c) a w) (n : Nat) : ∀ (l : Array Bool) (a : Act) (w : World),
      (∀ j oj, ops[j]? = some oj → j ≠ i → l.getD j true = false → (∀ e ∈ oj.after, Region.binds md e = true → e.on ≠ i) → oi.apart ops oj = true) →
      i ∈ Region.ready md ops l → YieldsIf P ops (Below B w) oi v a → wpAnyB B P md ops Q n (l.setIfInBounds i true) (a.put oi.dst v) w → wpAnyB B P md ops Q (n + 1) l a w := by
  induction n with
  | zero =>
    intro l a w _ hr hy H
    refine ⟨fun h => (by rw [h] at hr; cases hr), fun j hj => ?_⟩
    by_cases e : j = i
    · rw [e]
      exact hy.wpOp hi (Below.refl B w) ⟨Below.refl B w, H⟩
    · have h0 := ready_mono hj e
      rw [H.1] at h0
      cases h0
  | succ n ih =>
    intro l a w hfree hr hy H
    refine ⟨fun h => (by rw [h] at hr; cases hr), fun j hj => ?_⟩
    by_cases e : j = i
    · rw [e]
      exact hy.wpOp hi (Below.refl B w) ⟨Below.refl B w, H⟩
    · have h1 := H.2 j (ready_mono hj e)
      obtain ⟨hun, oj, hoj, hall⟩ := mem_ready.1 hj
      have hiu := (mem_ready.1 hr).1
      have hnot : ∀ x ∈ oj.after, Region.binds md x = true → x.on ≠ i := by
        intro x hx hb hh
        have hl := hall x hx hb
        rw [hh] at hl
        rcases Nat.lt_or_ge i l.size with hlt | hge
        · simp [hlt] at hiu hl
          rw [hiu] at hl
          cases hl
        · simp [Array.getElem?_eq_none hge] at hl
      have h2 := wpOp_putIf hoj (hfree j oj hoj e hun hnot) (fun cs b => hsel i oi cs b hi) (fun cs b => hsel j oj cs b hoj) hQ hy h1
      refine wpOp_mono (fun a' w' h3 => ⟨h3.2.1, ?_⟩) h2
      refine ih (l.setIfInBounds j true) a' w' (fun k ok hk hki hku hno => ?_) (ready_mono hr (Ne.symm e)) (yieldsIf_mono h3.1 fun _ hg => h3.2.1.trans hg) ?_
      · refine hfree k ok hk hki ?_ hno
        by_cases ejk : j = k
        · rw [← ejk]; exact hun
        · rw [getD_set_ne true ejk] at hku; exact hku
      · rw [Array.setIfInBounds_comm _ _ e]
        exact h3.2.2

/-- Operation number i yields v in every world that this one may grow to: it is taken first. -/
theorem takeB (i : Nat) {lst : List Oper} {oi : Oper} {v : Value} {n : Nat} {l : Array Bool} {a : Act} {w : World} (hi : lst[i]? = some oi)
    (hs : Region.noSelect lst.toArray = true) (hf : Region.free md lst.toArray l i = true) (hr : (Region.ready md lst.toArray l).contains i = true)
    (hQ : ∀ c a w, Q (.panic c) (a.put oi.dst v) w → Q (.panic c) a w) (hy : YieldsIf P lst.toArray (Below B w) oi v a)
    (h : wpAnyB B P md lst.toArray Q n (l.setIfInBounds i true) (a.put oi.dst v) w) : wpAnyB B P md lst.toArray Q (n + 1) l a w :=
  have hi' : lst.toArray[i]? = some oi := by simpa using hi
  wpAnyB_first hi' (Region.noSelect_spec hs) hQ n l a w (Region.free_spec hi' hf) (by simpa using hr) hy h
/-- Operation number i alone may come up. -/
theorem stepB (i : Nat) {lst : List Oper} {oi : Oper} {n : Nat} {l : Array Bool} {a : Act} {w : World} (hi : lst[i]? = some oi) (hr : Region.ready md lst.toArray l = [i]) (hw : Region.wanted oi (yielded lst.toArray a.tmps) = true)
    (h : ∀ K : Act → World → Prop, (∀ a' w', Below B w w' → wpAnyB B P md lst.toArray Q n (l.setIfInBounds i true) a' w' → K a' w') → oi.wp P a w K Q) : wpAnyB B P md lst.toArray Q (n + 1) l a w := by
  have hi' : lst.toArray[i]? = some oi := by simpa using hi
  refine ⟨fun h0 => (by rw [hr] at h0; cases h0), fun j hj => ?_⟩
  rw [hr] at hj
  obtain rfl : j = i := by simpa using hj
  unfold wpOp
  simp only [hi', hw, if_true]
  exact .inl (h _ fun a' w' h1 h2 => ⟨h1, h2⟩)
/-- All have come up. -/
theorem doneB {n : Nat} {l : Array Bool} {a : Act} {w : World} (hr : Region.ready md ops l = []) (h : Q .normal a w) : wpAnyB B P md ops Q n l a w := by
  cases n with
  | zero => exact ⟨hr, h⟩
  | succ n => exact ⟨fun _ => h, by rw [hr]; simp⟩
/-- The beginning. -/
theorem startB (n : Nat) {id : Nat} {a : Act} {w : World} {l : Array Bool} (hm : P.follows .mixedOrders = true) (hn : ops.size = n) (hl : Array.replicate n false = l) (h : wpAnyB B P .any ops Q n l a w.drew) : (Code.region id ops true).wp P Q a w := by
  subst hn; subst hl
  exact wp_region_any hm (wpAny_of_B _ _ _ _ h)
end

end Go.Proofs.YtgihpgdjkanodaaGreatDoor

