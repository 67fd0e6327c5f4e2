/-
  Helper text: the lists of bits and of states, as plain functions; no statement is proved here.
-/
import Derived.Test.YtfblpakoibadoaaGreatDoorBase
namespace Go.Proofs.YtfblpakoibadoaaGreatDoor.Lv
open Go Go.RowKit

/-- The eight bits of a byte, the lowest first. -/
def byteL (x : UInt8) : List UInt8 := (List.range 8).map fun i => (x >>> UInt8.ofNat i) &&& 1
def bitsL (xs : List UInt8) : List UInt8 := xs.flatMap byteL
theorem byteL_len (x : UInt8) : (byteL x).length = 8 := by simp [byteL]
theorem bitsL_len (xs : List UInt8) : (bitsL xs).length = 8 * xs.length := by
  induction xs with
  | nil => rfl
  | cons x xs ih => simp only [bitsL, List.flatMap_cons, List.length_append, byteL_len, List.length_cons] at ih ⊢; omega
theorem bitsL_append (xs ys : List UInt8) : bitsL (xs ++ ys) = bitsL xs ++ bitsL ys := by simp [bitsL]
theorem bitsL_one (x : UInt8) : bitsL [x] = byteL x := by simp [bitsL]
theorem byteL_take (x : UInt8) {j : Nat} (h : j < 8) : (byteL x).take (j + 1) = (byteL x).take j ++ [(x >>> UInt8.ofNat j) &&& 1] := by
  rw [List.take_add_one, List.getElem?_eq_getElem (by rw [byteL_len]; exact h)]
  simp [byteL]

/-- All elements are 0 or 1. -/
def validL (xs : List UInt8) : Bool := xs.all fun x => decide (x.toNat ≤ 1)
theorem validL_snoc (xs : List UInt8) {k : Nat} (h : k < xs.length) : validL (xs.take (k + 1)) = (validL (xs.take k) && decide ((xs.getD k 0).toNat ≤ 1)) := by
  rw [take_snoc xs h]
  simp [validL]
theorem validL_bad (xs : List UInt8) {k : Nat} (h : k < xs.length) (hx : ¬ (xs.getD k 0).toNat ≤ 1) : validL xs = false := by
  unfold validL
  rw [List.all_eq_false]
  refine ⟨xs.getD k 0, ?_, by simpa using hx⟩
  rw [List.getD_eq_getElem?_getD, List.getElem?_eq_getElem h]
  exact List.getElem_mem h
theorem validL_get {xs : List UInt8} (hv : validL xs = true) {k : Nat} (h : k < xs.length) : (xs.getD k 0).toNat ≤ 1 := by
  rcases Nat.lt_or_ge 1 (xs.getD k 0).toNat with h1 | h1
  · rw [validL_bad xs h (by omega)] at hv; cases hv
  · exact h1

/-- xs if b, else nothing; 0 if b, else n. -/
def ifV (b : Bool) (xs : List UInt8) : List UInt8 := if b then xs else []
def errV (b : Bool) (n : Int) : Int := if b then 0 else n
theorem ifV_true (xs : List UInt8) : ifV true xs = xs := rfl
theorem ifV_false (xs : List UInt8) : ifV false xs = [] := rfl
theorem errV_true (n : Int) : errV true n = 0 := rfl
theorem errV_false (n : Int) : errV false n = n := rfl

/-- The other one of the states 0 and 1. -/
def flipL (s : UInt8) : UInt8 := if s = 0 then 1 else 0
/-- The state behind the first k bits. -/
def stA (xs : List UInt8) : Nat → UInt8
  | 0 => 0
  | k + 1 => if xs.getD k 0 = 0 then flipL (stA xs k) else stA xs k
def encL (xs : List UInt8) : List UInt8 := (List.range xs.length).map fun i => stA xs (i + 1)
theorem encL_len (xs : List UInt8) : (encL xs).length = xs.length := by simp [encL]
theorem stA_le (xs : List UInt8) (k : Nat) : (stA xs k).toNat ≤ 1 := by
  induction k with
  | zero => simp [stA]
  | succ k ih =>
    simp only [stA, flipL]
    split
    · split <;> simp
    · exact ih
theorem u8_eq_zero (x : UInt8) : (x = 0) ↔ ((x.toNat : Int) = 0) := by
  constructor
  · rintro rfl; rfl
  · intro h
    apply UInt8.toNat_inj.1
    simp only [UInt8.toNat_zero]; omega

/-- The state in front of place k. -/
def before (ls : List UInt8) (k : Nat) : UInt8 := if k = 0 then 0 else ls.getD (k - 1) 0
def decF (ls : List UInt8) (k : Nat) : UInt8 := if ls.getD k 0 = before ls k then 1 else 0
def decL (ls : List UInt8) : List UInt8 := (List.range ls.length).map (decF ls)
theorem decL_len (xs : List UInt8) : (decL xs).length = xs.length := by simp [decL]

theorem fold_snoc {S : Type} (f : S → UInt8 → S) (s : S) (xs : List UInt8) {k : Nat} (h : k < xs.length) : (xs.take (k + 1)).foldl f s = f ((xs.take k).foldl f s) (xs.getD k 0) := by
  rw [take_snoc xs h, List.foldl_append]
  rfl

/-- How many bits 1 stand behind each other, one bit on. -/
def onesB (n : Nat) (x : UInt8) : Nat := if x = 0 then 0 else n + 1
def stepS (s : Nat × List UInt8) (x : UInt8) : Nat × List UInt8 :=
  if onesB s.1 x = 6 then (0, s.2 ++ [x] ++ [0]) else (onesB s.1 x, s.2 ++ [x])
def stuffS (xs : List UInt8) : Nat × List UInt8 := xs.foldl stepS (0, [])
def stuffL (xs : List UInt8) : List UInt8 := (stuffS xs).2
theorem stuffS_snoc (xs : List UInt8) {k : Nat} (h : k < xs.length) : stuffS (xs.take (k + 1)) = stepS (stuffS (xs.take k)) (xs.getD k 0) := fold_snoc _ _ xs h
theorem onesB_le (n : Nat) (x : UInt8) : onesB n x ≤ n + 1 := by unfold onesB; split <;> omega
theorem stepS_bound (s : Nat × List UInt8) (x : UInt8) (h : s.1 ≤ 5) : (stepS s x).1 ≤ 5 ∧ (stepS s x).2.length ≤ s.2.length + 2 := by
  have hb := onesB_le s.1 x
  by_cases e : onesB s.1 x = 6
  · simp [stepS, e]
  · simp only [stepS, if_neg e, List.length_append, List.length_cons, List.length_nil]
    omega
theorem foldS_bound (xs : List UInt8) : ∀ s : Nat × List UInt8, s.1 ≤ 5 → (xs.foldl stepS s).1 ≤ 5 ∧ (xs.foldl stepS s).2.length ≤ s.2.length + 2 * xs.length := by
  induction xs with
  | nil => intro s h; simpa using h
  | cons x xs ih =>
    intro s h
    obtain ⟨h1, h2⟩ := stepS_bound s x h
    obtain ⟨h3, h4⟩ := ih _ h1
    simp only [List.foldl_cons, List.length_cons]
    exact ⟨h3, by omega⟩
theorem stuffS_bound (xs : List UInt8) : (stuffS xs).1 ≤ 5 ∧ (stuffS xs).2.length ≤ 2 * xs.length := by
  have := foldS_bound xs (0, []) (by simp)
  simpa [stuffS] using this

def stepU (s : Option (Nat × List UInt8)) (x : UInt8) : Option (Nat × List UInt8) :=
  match s with
  | none => none
  | some (n, out) => if n < 6 then some (onesB n x, out ++ [x]) else if x = 1 then none else some (onesB n x, out)
def unS (xs : List UInt8) : Option (Nat × List UInt8) := xs.foldl stepU (some (0, []))
def unstuffL (xs : List UInt8) : Option (List UInt8) :=
  match unS xs with
  | none => none
  | some (n, out) => if n = 6 then none else some out
theorem unS_snoc (xs : List UInt8) {k : Nat} (h : k < xs.length) : unS (xs.take (k + 1)) = stepU (unS (xs.take k)) (xs.getD k 0) := fold_snoc _ _ xs h
theorem unS_none (xs : List UInt8) {k : Nat} (h : unS (xs.take k) = none) : unS xs = none := by
  have hn : ∀ ys : List UInt8, ys.foldl stepU none = none := by
    intro ys
    induction ys with
    | nil => rfl
    | cons y ys ih => exact ih
  unfold unS at h ⊢
  rw [← List.take_append_drop k xs, List.foldl_append, h, hn]
theorem u8_eq_one (x : UInt8) : (x = 1) ↔ ((x.toNat : Int) = 1) := by
  constructor
  · rintro rfl; rfl
  · intro h
    apply UInt8.toNat_inj.1
    simp only [UInt8.toNat_one]; omega

/-- Bits 0 to m of byte j of some bits. -/
def accB (bits : List UInt8) (j : Nat) : Nat → UInt8
  | 0 => 0
  | m + 1 => accB bits j m ||| (bits.getD (8 * j + m) 0 <<< UInt8.ofNat m)
/-- The bytes when i of the bits are in their places. -/
def bytesP (bits : List UInt8) (i : Nat) : List UInt8 := (List.range (bits.length / 8)).map fun j => accB bits j (min 8 (i - 8 * j))
def bytesL (bits : List UInt8) : List UInt8 := (List.range (bits.length / 8)).map fun j => accB bits j 8
theorem bytesP_len (bits : List UInt8) (i : Nat) : (bytesP bits i).length = bits.length / 8 := by simp [bytesP]
theorem bytesL_len (bits : List UInt8) : (bytesL bits).length = bits.length / 8 := by simp [bytesL]
theorem bytesP_zero (bits : List UInt8) : bytesP bits 0 = List.replicate (bits.length / 8) 0 := by
  apply List.ext_getElem
  · simp [bytesP]
  · intro i h1 h2
    simp [bytesP, accB]
theorem bytesP_full (bits : List UInt8) (h : bits.length % 8 = 0) : bytesP bits bits.length = bytesL bits := by
  apply List.ext_getElem
  · simp [bytesP, bytesL]
  · intro i h1 h2
    simp only [bytesP, List.length_map, List.length_range] at h1
    simp only [bytesP, bytesL, List.getElem_map, List.getElem_range]
    congr 1
    omega
theorem bytesP_at (bits : List UInt8) {i : Nat} (hi : i < bits.length) (h8 : bits.length % 8 = 0) : (bytesP bits i).getD (i / 8) 0 = accB bits (i / 8) (i % 8) := by
  have h1 : i / 8 < bits.length / 8 := by omega
  have h2 : min 8 (i - 8 * (i / 8)) = i % 8 := by omega
  simp [bytesP, List.getD, h1, h2]
theorem bytesP_set (bits : List UInt8) {i : Nat} (hi : i < bits.length) (h8 : bits.length % 8 = 0) : (bytesP bits i).set (i / 8) (accB bits (i / 8) (i % 8) ||| (bits.getD i 0 <<< UInt8.ofNat (i % 8))) = bytesP bits (i + 1) := by
  apply List.ext_getElem
  · simp [bytesP]
  · intro j h1 h2
    simp only [bytesP, List.length_map, List.length_range] at h2
    rw [List.getElem_set]
    simp only [bytesP, List.getElem_map, List.getElem_range]
    by_cases e : i / 8 = j
    · rw [if_pos e]
      subst e
      have h3 : min 8 (i + 1 - 8 * (i / 8)) = i % 8 + 1 := by omega
      rw [h3]
      have h4 : 8 * (i / 8) + i % 8 = i := by omega
      show _ = accB bits (i / 8) (i % 8) ||| (bits.getD (8 * (i / 8) + i % 8) 0 <<< UInt8.ofNat (i % 8))
      rw [h4]
    · rw [if_neg e]
      congr 1
      omega

end Go.Proofs.YtfblpakoibadoaaGreatDoor.Lv
