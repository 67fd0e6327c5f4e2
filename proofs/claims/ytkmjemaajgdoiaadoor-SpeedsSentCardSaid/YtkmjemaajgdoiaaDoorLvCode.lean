/-
  Helper text, several in one; no statement is proved here.
-/
import Derived.Test.YtkmjemaajgdoiaaDoorLvSend
namespace Go.Proofs.YtkmjemaajgdoiaaDoor.Lv
open Go Go.RowKit

def bitF (xs : List UInt8) (i : Nat) : UInt8 := (xs.getD (i / 8) 0 >>> UInt8.ofNat (i % 8)) &&& 1
theorem bitsL_eq (xs : List UInt8) : (List.range (8 * xs.length)).map (bitF xs) = bitsL xs := by
  induction xs with
  | nil => rfl
  | cons x xs ih =>
    have h8 : 8 * (x :: xs).length = 8 + 8 * xs.length := by simp; omega
    rw [h8, List.range_add, List.map_append]
    have h2 : bitsL (x :: xs) = byteL x ++ bitsL xs := by simp [bitsL]
    rw [h2]
    congr 1
    rw [List.map_map, ← ih]
    apply List.map_congr_left
    intro i _
    unfold bitF
    have e1 : (8 + i) / 8 = i / 8 + 1 := by omega
    have e2 : (8 + i) % 8 = i % 8 := by omega
    simp only [Function.comp_apply, e1, e2, List.getD_cons_succ]
theorem rbit_val (x : UInt8) (j : Nat) (h : j < 8) : Value.int .u8 (((x.toNat : Int) / 2 ^ j).tmod 2) = bv ((x >>> UInt8.ofNat j) &&& 1) := by
  have H : ∀ x : Fin 256, ∀ j : Fin 8, ((x.val : Int) / 2 ^ j.val).tmod 2 = (((UInt8.ofNat x.val >>> UInt8.ofNat j.val) &&& 1).toNat : Int) := by decide +kernel
  have := H ⟨x.toNat, x.toNat_lt⟩ ⟨j, h⟩
  simp only [UInt8.ofNat_toNat] at this
  rw [this]

set_option maxHeartbeats 1600000 in
set_option maxRecDepth 100000 in
theorem refBits_any (w : World) (A : Option Addr) (c : Nat) (xs : List UInt8) (h : Rd w w.heap.size A c xs) (hl : xs.length ≤ 100000) :
    Calls Tryd.prog 31 #[.slice A xs.length c] w (Res1 w (bitsL xs)) := by
  have hmk := fun W : World => make_full (8 * (xs.length : Int)) W (by omega) (by omega)
  rw [show (8 * (xs.length : Int)).toNat = 8 * xs.length from by omega] at hmk
  go_enter Tryd.func31, Tryd.ntmps31
  go_wp2
  clear hmk
  go_loopw [4] (fun i wr => ∃ k : Nat, k ≤ 8 * xs.length ∧ i = .int .i64 k ∧ Row wr w.heap.size 5 (fillL (8 * xs.length) k (bitF xs)) ∧ Below w.heap.size w wr) (fun i _ => 8 * xs.length - (intOf i).toNat)
  case atStart => exact ⟨0, Nat.zero_le _, rfl, by rw [fillL_zero]; exact Row.made w _ _, (Below.refl _ _).alloc (Nat.le_refl _) _⟩
  case round =>
    obtain ⟨k, hk, rfl, hrow, hb⟩ := hrel
    by_cases hlt : k < 8 * xs.length
    · obtain ⟨b, off, rfl, hbB, hcell⟩ := (h.below hb).at_ (k := k / 8) (by omega)
      have hc2 := hrow.cell (i := k) (by rw [fillL_len]; exact hlt)
      have hf2 := hrow.frozen k
      have hset := hrow.set k (y := bitF xs k) rfl
      rw [fillL_set] at hset
      have hbv : bitF xs k = (xs.getD (k / 8) 0 >>> UInt8.ofNat (k % 8)) &&& 1 := rfl
      rw [hbv] at hset
      generalize (fillL (8 * xs.length) k (bitF xs)).getD k 0 = old at hc2
      have hrv := rbit_val (xs.getD (k / 8) 0) (k % 8) (by omega)
      generalize xs.getD (k / 8) 0 = x at hcell hset hrv
      have Hrv := Lib.hid hrv
      have Hset := Lib.hid hset
      clear hrv hset hbv
      have hk8 : (k : Int) / 8 < (xs.length : Int) := by omega
      have hk0 : (0 : Int) ≤ (k : Int) % 8 := by omega
      have hk7 : (k : Int) % 8 < 8 := by omega
      go_wp2
      rw [Hrv.out]
      go_roundw
      case rel => exact ⟨k + 1, by omega, by go_num, Hset.out, hb.setCell (Nat.le_refl _) _⟩
      case measure => simp [intOf]; omega
    · have hk9 : k = 8 * xs.length := by omega
      subst hk9
      have hrd := hrow.rd (by rw [fillL_len]; omega)
      rw [fillL_full, bitsL_eq] at hrd
      have hlen := bitsL_len xs
      rw [hlen] at hrd
      have Hr := Lib.hid hrd
      have Hl := Lib.hid hlen
      clear hrd hlen hrow
      go_wp2
      go_ret
      refine ⟨_, _, ?_, Hr.out, hb⟩
      rw [Hl.out]
      rfl

end Go.Proofs.YtkmjemaajgdoiaaDoor.Lv

namespace Go.Proofs.YtkmjemaajgdoiaaDoor.Lv
open Go Go.RowKit

def encP (xs : List UInt8) (k : Nat) : List UInt8 := (List.range k).map fun i => stA xs (i + 1)
theorem encP_snoc (xs : List UInt8) (k : Nat) : encP xs (k + 1) = encP xs k ++ [stA xs (k + 1)] := by simp [encP, List.range_succ]
theorem encP_full (xs : List UInt8) : encP xs xs.length = encL xs := rfl
theorem encP_len (xs : List UInt8) (k : Nat) : (encP xs k).length = k := by simp [encP]
theorem flip_val (s : UInt8) (h : s.toNat ≤ 1) : Value.int .u8 (1 - (s.toNat : Int)) = bv (flipL s) := by
  have H : ∀ x : Fin 2, 1 - (x.val : Int) = ((flipL (UInt8.ofNat x.val)).toNat : Int) := by decide +kernel
  have := H ⟨s.toNat, by omega⟩
  simp only [UInt8.ofNat_toNat] at this
  rw [this]

set_option maxHeartbeats 1600000 in
set_option maxRecDepth 100000 in
theorem refStates_own (w : World) (A : Option Addr) (c : Nat) (xs : List UInt8) (h : Rd w w.heap.size A c xs) (hl : xs.length ≤ 100000) :
    Calls Tryd.prog 28 #[.slice A xs.length c] w (ResO w 5 (encL xs)) := by
  go_enter Tryd.func28, Tryd.ntmps28
  go_wp2
  go_loopw [3, 4, 5] (fun o s i wr => ∃ k : Nat, k ≤ xs.length ∧ i = .int .i64 k ∧ s = bv (stA xs k) ∧ wr.ownsRow w.heap.size 5 1 o (encP xs k).length ((encP xs k).map bv) ∧ Below w.heap.size w wr) (fun _ _ i _ => xs.length - (intOf i).toNat)
  case atStart => exact ⟨0, Nat.zero_le _, rfl, rfl, World.ownsRow_nil _ _ _ _, Below.refl _ _⟩
  case round =>
    obtain ⟨k, hk, rfl, rfl, hown, hb⟩ := hrel
    by_cases hlt : k < xs.length
    · obtain ⟨b, off, rfl, hbB, hcell⟩ := (h.below hb).at_ hlt
      have hn := encP_snoc xs k
      have hlz : (encP xs k).length ≤ 100000 := by rw [encP_len]; omega
      have hst : stA xs (k + 1) = if xs.getD k 0 = 0 then flipL (stA xs k) else stA xs k := rfl
      have hsl := stA_le xs k
      generalize xs.getD k 0 = x at hcell hst
      generalize encP xs k = zs at hown hn hlz
      have hfv := flip_val (stA xs k) hsl
      have Hfv := Lib.hid hfv
      clear hfv
      by_cases hx : x = 0
      · subst hx
        rw [if_pos rfl] at hst
        rw [hst] at hn
        have Hst := Lib.hid hst
        have Hn := Lib.hid hn
        clear hst hn
        generalize flipL (stA xs k) = s2 at Hst Hn Hfv
        generalize stA xs k = s1 at hsl Hfv
        go_wp2_with (at_builtin; refine wpl_append1 Tryd.underlying22 Tryd.info5 rfl (.tmp 19) (.tmp 21) rfl w.heap.size u3 zs rfl hown s2 _ Hfv.out rfl (by omega) hb.size ?_; intro v' w1 hown2 hb2)
        go_roundw
        case rel => exact ⟨k + 1, by omega, by go_num, by rw [Hst.out]; exact Hfv.out, by rw [Hn.out]; exact hown2, hb.trans hb2⟩
        case measure => simp [intOf]; omega
      · have t0 : ((x.toNat : Int) == 0) = false := by
          rw [beq_eq_false_iff_ne]
          exact fun h => hx ((u8_eq_zero x).2 h)
        rw [if_neg hx] at hst
        rw [hst] at hn
        have Hst := Lib.hid hst
        have Hn := Lib.hid hn
        clear hst hn hx Hfv
        go_wp2_with (at_builtin; refine wpl_append1 Tryd.underlying22 Tryd.info5 rfl (.tmp 19) (.tmp 21) rfl w.heap.size u3 zs rfl hown (stA xs k) _ rfl rfl (by omega) hb.size ?_; intro v' w1 hown2 hb2)
        go_roundw
        case rel => exact ⟨k + 1, by omega, by go_num, by rw [Hst.out], by rw [Hn.out]; exact hown2, hb.trans hb2⟩
        case measure => simp [intOf]; omega
    · have hk9 : k = xs.length := by omega
      subst hk9
      rw [encP_full] at hown
      go_wp2
      go_ret
      exact ⟨_, rfl, hown, hb⟩
theorem refStates_any (w : World) (A : Option Addr) (c : Nat) (xs : List UInt8) (h : Rd w w.heap.size A c xs) (hl : xs.length ≤ 100000) :
    Calls Tryd.prog 28 #[.slice A xs.length c] w (Res1 w (encL xs)) :=
  (refStates_own w A c xs h hl).mono fun _ _ hh => hh.to1

def decP (xs : List UInt8) (k : Nat) : List UInt8 := (List.range k).map (decF xs)
theorem decP_snoc (xs : List UInt8) (k : Nat) : decP xs (k + 1) = decP xs k ++ [decF xs k] := by simp [decP, List.range_succ]
theorem decP_full (xs : List UInt8) : decP xs xs.length = decL xs := rfl
theorem decP_len (xs : List UInt8) (k : Nat) : (decP xs k).length = k := by simp [decP]
/-- Bytes and a truth value are returned. -/
def ResT (w : World) (ys : List UInt8) (b : Bool) (e : Ending) (w' : World) : Prop :=
  ∃ A c, e = .returned (.tuple #[.slice A ys.length c, .bool b]) ∧ Rd w' w'.heap.size A c ys ∧ Below w.heap.size w w'

theorem decF_01 (xs : List UInt8) (k : Nat) : decF xs k = 0 ∨ decF xs k = 1 := by unfold decF; split <;> simp
theorem u8_01 {x : UInt8} (h : x.toNat ≤ 1) : x = 0 ∨ x = 1 := by
  rcases (by omega : x.toNat = 0 ∨ x.toNat = 1) with h | h
  · left; exact UInt8.toNat_inj.1 h
  · right; exact UInt8.toNat_inj.1 h
theorem flip_ne {x : UInt8} (h : x.toNat ≤ 1) : flipL x ≠ x := by
  rcases u8_01 h with rfl | rfl <;> decide
theorem flip_of_ne {x y : UInt8} (hx : x.toNat ≤ 1) (hy : y.toNat ≤ 1) (h : x ≠ y) : flipL y = x := by
  rcases u8_01 hx with rfl | rfl <;> rcases u8_01 hy with rfl | rfl <;> first | rfl | exact absurd rfl h
theorem encL_get (xs : List UInt8) {k : Nat} (h : k < xs.length) : (encL xs).getD k 0 = stA xs (k + 1) := by simp [encL, List.getD, h]
theorem before_encL (xs : List UInt8) {k : Nat} (h : k ≤ xs.length) : before (encL xs) k = stA xs k := by
  unfold before
  cases k with
  | zero => rfl
  | succ k =>
    rw [if_neg (by omega), Nat.add_sub_cancel, encL_get xs (by omega)]
theorem decL_get (xs : List UInt8) {k : Nat} (h : k < xs.length) : (decL xs).getD k 0 = decF xs k := by simp [decL, List.getD, h]
theorem decL_encL (xs : List UInt8) (hv : validL xs = true) : decL (encL xs) = xs := by
  refine list_ext_getD _ _ (by rw [decL_len, encL_len]) fun k hk => ?_
  rw [decL_len, encL_len] at hk
  rw [decL_get _ (by rw [encL_len]; exact hk)]
  unfold decF
  rw [encL_get xs hk, before_encL xs (by omega)]
  have hx := validL_get hv hk
  show (if (if xs.getD k 0 = 0 then flipL (stA xs k) else stA xs k) = stA xs k then (1 : UInt8) else 0) = _
  rcases u8_01 hx with h | h <;> rw [h]
  · rw [if_pos rfl, if_neg (flip_ne (stA_le xs k))]
  · rw [if_neg (show ¬ (1 : UInt8) = 0 by decide), if_pos rfl]
theorem stA_decL (ls : List UInt8) (hv : validL ls = true) : ∀ k, k ≤ ls.length → stA (decL ls) k = before ls k := by
  intro k
  induction k with
  | zero => intro _; rfl
  | succ k ih =>
    intro hk
    have ih := ih (by omega)
    show (if (decL ls).getD k 0 = 0 then flipL (stA (decL ls) k) else stA (decL ls) k) = ls.getD k 0
    rw [ih, decL_get ls (by omega)]
    unfold decF
    have hb : (before ls k).toNat ≤ 1 := by
      unfold before
      split
      · simp
      · exact validL_get hv (by omega)
    by_cases e : ls.getD k 0 = before ls k
    · rw [if_pos e, if_neg (by decide), e]
    · rw [if_neg e, if_pos rfl]
      exact flip_of_ne (validL_get hv (by omega)) hb e
theorem encL_decL (ls : List UInt8) (hv : validL ls = true) : encL (decL ls) = ls := by
  refine list_ext_getD _ _ (by rw [encL_len, decL_len]) fun k hk => ?_
  rw [encL_len, decL_len] at hk
  rw [encL_get _ (by rw [decL_len]; exact hk), stA_decL ls hv (k + 1) (by omega)]
  rfl
theorem validL_encL (xs : List UInt8) : validL (encL xs) = true := by
  unfold validL encL
  rw [List.all_eq_true]
  intro x hx
  obtain ⟨i, _, rfl⟩ := List.mem_map.1 hx
  simpa using stA_le xs (i + 1)

end Go.Proofs.YtkmjemaajgdoiaaDoor.Lv

namespace Go.Proofs.YtkmjemaajgdoiaaDoor.Lv
open Go Go.RowKit

theorem bitsL_get (xs : List UInt8) {i : Nat} (h : i < 8 * xs.length) : (bitsL xs).getD i 0 = bitF xs i := by
  rw [← bitsL_eq]
  simp [List.getD, h]
theorem validL_bitsL (xs : List UInt8) : validL (bitsL xs) = true := by
  rw [← bitsL_eq]
  unfold validL
  rw [List.all_eq_true]
  intro x hx
  obtain ⟨i, _, rfl⟩ := List.mem_map.1 hx
  unfold bitF
  rw [UInt8.toNat_and]
  have := Nat.and_le_right (n := (xs.getD (i / 8) 0 >>> UInt8.ofNat (i % 8)).toNat) (m := (1 : UInt8).toNat)
  simpa using this
theorem byte_back (x : UInt8) : (0 : UInt8) ||| ((x >>> UInt8.ofNat 0 &&& 1) <<< UInt8.ofNat 0) ||| ((x >>> UInt8.ofNat 1 &&& 1) <<< UInt8.ofNat 1) ||| ((x >>> UInt8.ofNat 2 &&& 1) <<< UInt8.ofNat 2) ||| ((x >>> UInt8.ofNat 3 &&& 1) <<< UInt8.ofNat 3) ||| ((x >>> UInt8.ofNat 4 &&& 1) <<< UInt8.ofNat 4) ||| ((x >>> UInt8.ofNat 5 &&& 1) <<< UInt8.ofNat 5) ||| ((x >>> UInt8.ofNat 6 &&& 1) <<< UInt8.ofNat 6) ||| ((x >>> UInt8.ofNat 7 &&& 1) <<< UInt8.ofNat 7) = x := by
  have H : ∀ x : Fin 256, (0 : UInt8) ||| ((UInt8.ofNat x.val >>> UInt8.ofNat 0 &&& 1) <<< UInt8.ofNat 0) ||| ((UInt8.ofNat x.val >>> UInt8.ofNat 1 &&& 1) <<< UInt8.ofNat 1) ||| ((UInt8.ofNat x.val >>> UInt8.ofNat 2 &&& 1) <<< UInt8.ofNat 2) ||| ((UInt8.ofNat x.val >>> UInt8.ofNat 3 &&& 1) <<< UInt8.ofNat 3) ||| ((UInt8.ofNat x.val >>> UInt8.ofNat 4 &&& 1) <<< UInt8.ofNat 4) ||| ((UInt8.ofNat x.val >>> UInt8.ofNat 5 &&& 1) <<< UInt8.ofNat 5) ||| ((UInt8.ofNat x.val >>> UInt8.ofNat 6 &&& 1) <<< UInt8.ofNat 6) ||| ((UInt8.ofNat x.val >>> UInt8.ofNat 7 &&& 1) <<< UInt8.ofNat 7) = UInt8.ofNat x.val := by decide +kernel
  have := H ⟨x.toNat, x.toNat_lt⟩
  simpa only [UInt8.ofNat_toNat] using this
theorem bytesL_bitsL (xs : List UInt8) : bytesL (bitsL xs) = xs := by
  have hl : (bitsL xs).length / 8 = xs.length := by rw [bitsL_len]; omega
  refine list_ext_getD _ _ (by rw [bytesL_len, hl]) fun j hj => ?_
  rw [bytesL_len, hl] at hj
  have e0 : (bytesL (bitsL xs)).getD j 0 = accB (bitsL xs) j 8 := by simp [bytesL, List.getD, hl, hj]
  rw [e0]
  have hb : ∀ t, t < 8 → (bitsL xs).getD (8 * j + t) 0 = (xs.getD j 0 >>> UInt8.ofNat t) &&& 1 := by
    intro t ht
    rw [bitsL_get xs (by omega)]
    unfold bitF
    rw [show (8 * j + t) / 8 = j from by omega, show (8 * j + t) % 8 = t from by omega]
  simp only [accB]
  rw [hb 0 (by omega), hb 1 (by omega), hb 2 (by omega), hb 3 (by omega), hb 4 (by omega), hb 5 (by omega), hb 6 (by omega), hb 7 (by omega)]
  exact byte_back _
theorem bit_back (b0 b1 b2 b3 b4 b5 b6 b7 : UInt8) (h0 : b0.toNat ≤ 1) (h1 : b1.toNat ≤ 1) (h2 : b2.toNat ≤ 1) (h3 : b3.toNat ≤ 1) (h4 : b4.toNat ≤ 1) (h5 : b5.toNat ≤ 1) (h6 : b6.toNat ≤ 1) (h7 : b7.toNat ≤ 1) (j : Nat) (hj : j < 8) :
    (((0 : UInt8) ||| b0 <<< UInt8.ofNat 0 ||| b1 <<< UInt8.ofNat 1 ||| b2 <<< UInt8.ofNat 2 ||| b3 <<< UInt8.ofNat 3 ||| b4 <<< UInt8.ofNat 4 ||| b5 <<< UInt8.ofNat 5 ||| b6 <<< UInt8.ofNat 6 ||| b7 <<< UInt8.ofNat 7) >>> UInt8.ofNat j) &&& 1 = [b0, b1, b2, b3, b4, b5, b6, b7].getD j 0 := by
  have c : ∀ x : UInt8, x.toNat ≤ 1 → x = 0 ∨ x = 1 := by
    intro x hx
    rcases (by omega : x.toNat = 0 ∨ x.toNat = 1) with h | h
    · left; exact UInt8.toNat_inj.1 h
    · right; exact UInt8.toNat_inj.1 h
  have H : ∀ a0 a1 a2 a3 a4 a5 a6 a7 : Bool, ∀ j : Fin 8, (((0 : UInt8) ||| (if a0 then 1 else 0 : UInt8) <<< UInt8.ofNat 0 ||| (if a1 then 1 else 0 : UInt8) <<< UInt8.ofNat 1 ||| (if a2 then 1 else 0 : UInt8) <<< UInt8.ofNat 2 ||| (if a3 then 1 else 0 : UInt8) <<< UInt8.ofNat 3 ||| (if a4 then 1 else 0 : UInt8) <<< UInt8.ofNat 4 ||| (if a5 then 1 else 0 : UInt8) <<< UInt8.ofNat 5 ||| (if a6 then 1 else 0 : UInt8) <<< UInt8.ofNat 6 ||| (if a7 then 1 else 0 : UInt8) <<< UInt8.ofNat 7) >>> UInt8.ofNat j.val) &&& 1 = [(if a0 then 1 else 0 : UInt8), if a1 then 1 else 0, if a2 then 1 else 0, if a3 then 1 else 0, if a4 then 1 else 0, if a5 then 1 else 0, if a6 then 1 else 0, if a7 then 1 else 0].getD j.val 0 := by decide +kernel
  have e : ∀ x : UInt8, x.toNat ≤ 1 → ∃ a : Bool, x = if a then 1 else 0 := by
    intro x hx
    rcases c x hx with h | h
    · exact ⟨false, h⟩
    · exact ⟨true, h⟩
  obtain ⟨a0, rfl⟩ := e b0 h0
  obtain ⟨a1, rfl⟩ := e b1 h1
  obtain ⟨a2, rfl⟩ := e b2 h2
  obtain ⟨a3, rfl⟩ := e b3 h3
  obtain ⟨a4, rfl⟩ := e b4 h4
  obtain ⟨a5, rfl⟩ := e b5 h5
  obtain ⟨a6, rfl⟩ := e b6 h6
  obtain ⟨a7, rfl⟩ := e b7 h7
  exact H a0 a1 a2 a3 a4 a5 a6 a7 ⟨j, hj⟩
theorem bitsL_bytesL (ys : List UInt8) (hv : validL ys = true) (h8 : ys.length % 8 = 0) : bitsL (bytesL ys) = ys := by
  have hl : 8 * (bytesL ys).length = ys.length := by rw [bytesL_len]; omega
  refine list_ext_getD _ _ (by rw [bitsL_len, hl]) fun i hi => ?_
  rw [bitsL_len] at hi
  rw [bitsL_get _ hi]
  rw [hl] at hi
  unfold bitF
  have hj : i / 8 < ys.length / 8 := by omega
  have e0 : (bytesL ys).getD (i / 8) 0 = accB ys (i / 8) 8 := by simp [bytesL, List.getD, hj]
  rw [e0]
  have hb : ∀ t, t < 8 → (ys.getD (8 * (i / 8) + t) 0).toNat ≤ 1 := fun t ht => validL_get hv (by omega)
  simp only [accB]
  have := bit_back _ _ _ _ _ _ _ _ (hb 0 (by omega)) (hb 1 (by omega)) (hb 2 (by omega)) (hb 3 (by omega)) (hb 4 (by omega)) (hb 5 (by omega)) (hb 6 (by omega)) (hb 7 (by omega)) (i % 8) (by omega)
  refine Eq.trans this ?_
  rcases (by omega : i % 8 = 0 ∨ i % 8 = 1 ∨ i % 8 = 2 ∨ i % 8 = 3 ∨ i % 8 = 4 ∨ i % 8 = 5 ∨ i % 8 = 6 ∨ i % 8 = 7) with h | h | h | h | h | h | h | h <;> rw [h] <;> simp only [List.getD_cons_zero, List.getD_cons_succ] <;> congr 1 <;> omega

end Go.Proofs.YtkmjemaajgdoiaaDoor.Lv

namespace Go.Proofs.YtkmjemaajgdoiaaDoor.Lv
open Go Go.RowKit

theorem stepU_six (acc : List UInt8) : stepU (some (6, acc)) 0 = some (0, acc) := by
  unfold stepU onesB
  simp
theorem stepU_lt {n : Nat} (h : n < 6) (acc : List UInt8) (x : UInt8) : stepU (some (n, acc)) x = some (onesB n x, acc ++ [x]) := by
  show (if n < 6 then some (onesB n x, acc ++ [x]) else if x = 1 then none else some (onesB n x, acc)) = _
  rw [if_pos h]
/-- What is stuffed behind n bits 1, and the bits 1 behind it. -/
def emit (n : Nat) : List UInt8 → Nat × List UInt8
  | [] => (n, [])
  | x :: xs => if onesB n x = 6 then ((emit 0 xs).1, x :: 0 :: (emit 0 xs).2) else ((emit (onesB n x) xs).1, x :: (emit (onesB n x) xs).2)
theorem foldS_emit (xs : List UInt8) : ∀ (n : Nat) (out : List UInt8), xs.foldl stepS (n, out) = ((emit n xs).1, out ++ (emit n xs).2) := by
  induction xs with
  | nil => intro n out; simp [emit]
  | cons x xs ih =>
    intro n out
    simp only [List.foldl_cons, stepS, emit]
    split
    · rw [ih]; simp
    · rw [ih]; simp
theorem emit_le (xs : List UInt8) : ∀ n, n ≤ 5 → (emit n xs).1 ≤ 5 := by
  induction xs with
  | nil => intro n h; exact h
  | cons x xs ih =>
    intro n h
    have := onesB_le n x
    simp only [emit]
    split
    · exact ih 0 (by omega)
    · exact ih _ (by omega)
theorem foldU_emit (xs : List UInt8) : ∀ (n : Nat) (acc : List UInt8), n ≤ 5 → (emit n xs).2.foldl stepU (some (n, acc)) = some ((emit n xs).1, acc ++ xs) := by
  induction xs with
  | nil => intro n acc _; simp [emit]
  | cons x xs ih =>
    intro n acc h
    have hb := onesB_le n x
    simp only [emit]
    split
    · rename_i e
      simp only [List.foldl_cons]
      rw [stepU_lt (by omega), e, stepU_six, ih 0 _ (by omega)]
      simp
    · simp only [List.foldl_cons]
      rw [stepU_lt (by omega), ih _ _ (by omega)]
      simp
theorem stuffL_emit (xs : List UInt8) : stuffL xs = (emit 0 xs).2 := by
  unfold stuffL stuffS
  rw [foldS_emit]
  simp
theorem unstuff_stuff (xs : List UInt8) : unstuffL (stuffL xs) = some xs := by
  have h := foldU_emit xs 0 [] (by omega)
  have hl := emit_le xs 0 (by omega)
  unfold unstuffL unS
  rw [stuffL_emit, h]
  simp only [List.nil_append]
  rw [if_neg (by omega)]

/-- What is accepted so far, stuffed again. -/
theorem unS_stuff (ys : List UInt8) (hv : validL ys = true) : ∀ k, k ≤ ys.length → ∀ n us, unS (ys.take k) = some (n, us) → (n < 6 ∧ stuffS us = (n, ys.take k)) ∨ (n = 6 ∧ stuffS us = (0, ys.take k ++ [0])) := by
  intro k
  induction k with
  | zero =>
    intro _ n us h
    simp [unS] at h
    obtain ⟨rfl, rfl⟩ := h
    exact .inl ⟨by omega, rfl⟩
  | succ k ih =>
    intro hk n us h
    rw [unS_snoc ys (by omega)] at h
    rw [take_snoc ys (by omega)]
    cases hu : unS (ys.take k) with
    | none => rw [hu] at h; cases h
    | some p =>
      obtain ⟨m, zs⟩ := p
      have hx := validL_get hv (k := k) (by omega)
      rw [hu] at h
      generalize ys.getD k 0 = x at h hx
      rcases ih (by omega) m zs hu with ⟨hm, hs⟩ | ⟨rfl, hs⟩
      · rw [stepU_lt hm] at h
        simp only [Option.some.injEq, Prod.mk.injEq] at h
        obtain ⟨rfl, rfl⟩ := h
        have hb := onesB_le m x
        have he : stuffS (zs ++ [x]) = stepS (stuffS zs) x := by simp [stuffS, List.foldl_append]
        rw [he, hs]
        unfold stepS
        by_cases e : onesB m x = 6
        · rw [if_pos e]
          exact .inr ⟨e, rfl⟩
        · rw [if_neg e]
          exact .inl ⟨by omega, rfl⟩
      · rcases u8_01 hx with rfl | rfl
        · rw [stepU_six] at h
          simp only [Option.some.injEq, Prod.mk.injEq] at h
          obtain ⟨rfl, rfl⟩ := h
          exact .inl ⟨by omega, hs⟩
        · simp [stepU] at h
theorem stuff_unstuff (ys us : List UInt8) (hv : validL ys = true) (h : unstuffL ys = some us) : stuffL us = ys := by
  unfold unstuffL at h
  cases hu : unS ys with
  | none => rw [hu] at h; cases h
  | some p =>
    obtain ⟨n, zs⟩ := p
    rw [hu] at h
    simp only at h
    split at h
    · cases h
    · rename_i hn
      obtain rfl := Option.some.inj h
      have := unS_stuff ys hv ys.length (Nat.le_refl _) n zs (by rw [List.take_length]; exact hu)
      rw [List.take_length] at this
      rcases this with ⟨_, hs⟩ | ⟨h6, _⟩
      · unfold stuffL; rw [hs]
      · exact absurd h6 hn
theorem emit_valid (xs : List UInt8) (hv : validL xs = true) : ∀ n, validL (emit n xs).2 = true := by
  induction xs with
  | nil => intro n; rfl
  | cons x xs ih =>
    intro n
    have h1 : x.toNat ≤ 1 ∧ validL xs = true := by simpa [validL] using hv
    have ih := ih h1.2
    simp only [emit]
    unfold validL at ih ⊢
    split
    · simp only [List.all_cons, Bool.and_eq_true, decide_eq_true_eq]
      exact ⟨h1.1, by simp, ih 0⟩
    · simp only [List.all_cons, Bool.and_eq_true, decide_eq_true_eq]
      exact ⟨h1.1, ih _⟩
theorem validL_stuffL (xs : List UInt8) (hv : validL xs = true) : validL (stuffL xs) = true := by
  rw [stuffL_emit]
  exact emit_valid xs hv 0
theorem validL_append (xs ys : List UInt8) (h1 : validL xs = true) (h2 : validL ys = true) : validL (xs ++ ys) = true := by
  unfold validL at h1 h2 ⊢
  rw [List.all_append, h1, h2]
  rfl

theorem end_split (l : List UInt8) (h : hasEndL l = true) : l = l.take (l.length - 3) ++ endL := by
  have h3 := hasEndL_len l h
  unfold hasEndL at h
  rw [Bool.and_eq_true, decide_eq_true_eq, decide_eq_true_eq] at h
  conv => lhs; rw [← List.take_append_drop (l.length - 3) l, h.2]
theorem recv_send (xs : List UInt8) (h1 : 0 < xs.length) (h2 : xs.length ≤ 1027) : recvL (sendL xs) = (xs, 0) := by
  have hvb := validL_append syncL (bitsL xs) (by decide) (validL_bitsL xs)
  have hz := validL_stuffL _ hvb
  have hl : (sendL xs).length - 3 = (encL (stuffL (syncL ++ bitsL xs))).length := by simp [sendL, endL]
  have ht : (sendL xs).take ((sendL xs).length - 3) = encL (stuffL (syncL ++ bitsL xs)) := by
    rw [hl]
    unfold sendL
    rw [List.take_left]
  have he : hasEndL (sendL xs) = true := by
    unfold hasEndL
    rw [Bool.and_eq_true, decide_eq_true_eq, decide_eq_true_eq]
    refine ⟨by simp [sendL, endL], ?_⟩
    rw [hl]
    unfold sendL
    rw [List.drop_left]
  unfold recvL
  rw [if_pos he, ht, if_pos (validL_encL _), decL_encL _ hz, unstuff_stuff]
  simp only
  have hs : hasSyncL (syncL ++ bitsL xs) = true := by
    unfold hasSyncL
    rw [decide_eq_true_eq]
    rfl
  rw [if_pos hs]
  have hd : (syncL ++ bitsL xs).drop 8 = bitsL xs := rfl
  rw [hd]
  unfold contentL
  rw [bitsL_len, if_neg (by omega), if_neg (by omega), if_neg (by omega), bytesL_bitsL]
theorem recv_ok (l ys : List UInt8) (h : recvL l = (ys, 0)) : sendL ys = l ∧ 0 < ys.length ∧ ys.length ≤ 1027 := by
  unfold recvL at h
  split at h
  · rename_i he
    split at h
    · rename_i hv
      cases hu : unstuffL (decL (l.take (l.length - 3))) with
      | none => rw [hu] at h; simp at h
      | some u =>
        rw [hu] at h
        simp only at h
        split at h
        · rename_i hs
          have hdv := validL_decL (l.take (l.length - 3))
          have huv := (unstuffL_props _ hdv u hu).1
          have h8 := hasSyncL_len u hs
          have hsy : u.take 8 = syncL := by unfold hasSyncL at hs; simpa using hs
          unfold contentL at h
          split at h
          · simp at h
          · rename_i hm
            split at h
            · simp at h
            · rename_i h0
              split at h
              · simp at h
              · rename_i hb
                simp only [Prod.mk.injEq, and_true] at h
                have hback := bitsL_bytesL (u.drop 8) (validL_drop u 8 huv) (by omega)
                rw [h] at hback
                have hlen : ys.length = (u.drop 8).length / 8 := by rw [← h, bytesL_len]
                refine ⟨?_, by omega, by omega⟩
                unfold sendL
                rw [hback, ← hsy, List.take_append_drop, stuff_unstuff _ u hdv hu, encL_decL _ hv]
                exact (end_split l he).symm
        · simp at h
    · simp at h
  · simp at h

end Go.Proofs.YtkmjemaajgdoiaaDoor.Lv

