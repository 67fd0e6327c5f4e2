/-
  Helper text: contracts of the reference's States and Levels, and that encoding and decoding invert each other; no statement is proved here.
-/
import Derived.Test.YtkmjemaajgdoiaaDoorLvRefA
namespace Go.Proofs.YtkmjemaajgdoiaaDoor.Lv
open Go Go.RowKit

def encP (xs : List UInt8) (k : Nat) : List UInt8 := (List.range k).map fun i => stA xs (i + 1)
theorem encP_snoc (xs : List UInt8) (k : Nat) : encP xs (k + 1) = encP xs k ++ [stA xs (k + 1)] := by simp [encP, List.range_succ]
theorem encP_full (xs : List UInt8) : encP xs xs.length = encL xs := rfl
theorem encP_len (xs : List UInt8) (k : Nat) : (encP xs k).length = k := by simp [encP]
theorem flip_val (s : UInt8) (h : s.toNat ≤ 1) : Value.int .u8 (1 - (s.toNat : Int)) = bv (flipL s) := by
  have H : ∀ x : Fin 2, 1 - (x.val : Int) = ((flipL (UInt8.ofNat x.val)).toNat : Int) := by decide +kernel
  have := H ⟨s.toNat, by omega⟩
  simp only [UInt8.ofNat_toNat] at this
  rw [this]

set_option maxHeartbeats 1600000 in
set_option maxRecDepth 100000 in
theorem refStates_own (w : World) (A : Option Addr) (c : Nat) (xs : List UInt8) (h : Rd w w.heap.size A c xs) (hl : xs.length ≤ 100000) :
    Calls Tryd.prog 28 #[.slice A xs.length c] w (ResO w 5 (encL xs)) := by
  go_enter Tryd.func28, Tryd.ntmps28
  go_wp2
  go_loopw [3, 4, 5] (fun o s i wr => ∃ k : Nat, k ≤ xs.length ∧ i = .int .i64 k ∧ s = bv (stA xs k) ∧ wr.ownsRow w.heap.size 5 1 o (encP xs k).length ((encP xs k).map bv) ∧ Below w.heap.size w wr) (fun _ _ i _ => xs.length - (intOf i).toNat)
  case atStart => exact ⟨0, Nat.zero_le _, rfl, rfl, World.ownsRow_nil _ _ _ _, Below.refl _ _⟩
  case round =>
    obtain ⟨k, hk, rfl, rfl, hown, hb⟩ := hrel
    by_cases hlt : k < xs.length
    · obtain ⟨b, off, rfl, hbB, hcell⟩ := (h.below hb).at_ hlt
      have hn := encP_snoc xs k
      have hlz : (encP xs k).length ≤ 100000 := by rw [encP_len]; omega
      have hst : stA xs (k + 1) = if xs.getD k 0 = 0 then flipL (stA xs k) else stA xs k := rfl
      have hsl := stA_le xs k
      generalize xs.getD k 0 = x at hcell hst
      generalize encP xs k = zs at hown hn hlz
      have hfv := flip_val (stA xs k) hsl
      have Hfv := Lib.hid hfv
      clear hfv
      by_cases hx : x = 0
      · subst hx
        rw [if_pos rfl] at hst
        rw [hst] at hn
        have Hst := Lib.hid hst
        have Hn := Lib.hid hn
        clear hst hn
        generalize flipL (stA xs k) = s2 at Hst Hn Hfv
        generalize stA xs k = s1 at hsl Hfv
        go_wp2_with (at_builtin; refine wpl_append1 Tryd.underlying22 Tryd.info5 rfl (.tmp 19) (.tmp 21) rfl w.heap.size u3 zs rfl hown s2 _ Hfv.out rfl (by omega) hb.size ?_; intro v' w1 hown2 hb2)
        go_roundw
        case rel => exact ⟨k + 1, by omega, by go_num, by rw [Hst.out]; exact Hfv.out, by rw [Hn.out]; exact hown2, hb.trans hb2⟩
        case measure => simp [intOf]; omega
      · have t0 : ((x.toNat : Int) == 0) = false := by
          rw [beq_eq_false_iff_ne]
          exact fun h => hx ((u8_eq_zero x).2 h)
        rw [if_neg hx] at hst
        rw [hst] at hn
        have Hst := Lib.hid hst
        have Hn := Lib.hid hn
        clear hst hn hx Hfv
        go_wp2_with (at_builtin; refine wpl_append1 Tryd.underlying22 Tryd.info5 rfl (.tmp 19) (.tmp 21) rfl w.heap.size u3 zs rfl hown (stA xs k) _ rfl rfl (by omega) hb.size ?_; intro v' w1 hown2 hb2)
        go_roundw
        case rel => exact ⟨k + 1, by omega, by go_num, by rw [Hst.out], by rw [Hn.out]; exact hown2, hb.trans hb2⟩
        case measure => simp [intOf]; omega
    · have hk9 : k = xs.length := by omega
      subst hk9
      rw [encP_full] at hown
      go_wp2
      go_ret
      exact ⟨_, rfl, hown, hb⟩
theorem refStates_any (w : World) (A : Option Addr) (c : Nat) (xs : List UInt8) (h : Rd w w.heap.size A c xs) (hl : xs.length ≤ 100000) :
    Calls Tryd.prog 28 #[.slice A xs.length c] w (Res1 w (encL xs)) :=
  (refStates_own w A c xs h hl).mono fun _ _ hh => hh.to1

def decP (xs : List UInt8) (k : Nat) : List UInt8 := (List.range k).map (decF xs)
theorem decP_snoc (xs : List UInt8) (k : Nat) : decP xs (k + 1) = decP xs k ++ [decF xs k] := by simp [decP, List.range_succ]
theorem decP_full (xs : List UInt8) : decP xs xs.length = decL xs := rfl
theorem decP_len (xs : List UInt8) (k : Nat) : (decP xs k).length = k := by simp [decP]
/-- Bytes and a truth value are returned. -/
def ResT (w : World) (ys : List UInt8) (b : Bool) (e : Ending) (w' : World) : Prop :=
  ∃ A c, e = .returned (.tuple #[.slice A ys.length c, .bool b]) ∧ Rd w' w'.heap.size A c ys ∧ Below w.heap.size w w'

theorem decF_01 (xs : List UInt8) (k : Nat) : decF xs k = 0 ∨ decF xs k = 1 := by unfold decF; split <;> simp
theorem u8_01 {x : UInt8} (h : x.toNat ≤ 1) : x = 0 ∨ x = 1 := by
  rcases (by omega : x.toNat = 0 ∨ x.toNat = 1) with h | h
  · left; exact UInt8.toNat_inj.1 h
  · right; exact UInt8.toNat_inj.1 h
theorem flip_ne {x : UInt8} (h : x.toNat ≤ 1) : flipL x ≠ x := by
  rcases u8_01 h with rfl | rfl <;> decide
theorem flip_of_ne {x y : UInt8} (hx : x.toNat ≤ 1) (hy : y.toNat ≤ 1) (h : x ≠ y) : flipL y = x := by
  rcases u8_01 hx with rfl | rfl <;> rcases u8_01 hy with rfl | rfl <;> first | rfl | exact absurd rfl h
theorem encL_get (xs : List UInt8) {k : Nat} (h : k < xs.length) : (encL xs).getD k 0 = stA xs (k + 1) := by simp [encL, List.getD, h]
theorem before_encL (xs : List UInt8) {k : Nat} (h : k ≤ xs.length) : before (encL xs) k = stA xs k := by
  unfold before
  cases k with
  | zero => rfl
  | succ k =>
    rw [if_neg (by omega), Nat.add_sub_cancel, encL_get xs (by omega)]
theorem decL_get (xs : List UInt8) {k : Nat} (h : k < xs.length) : (decL xs).getD k 0 = decF xs k := by simp [decL, List.getD, h]
theorem decL_encL (xs : List UInt8) (hv : validL xs = true) : decL (encL xs) = xs := by
  refine list_ext_getD _ _ (by rw [decL_len, encL_len]) fun k hk => ?_
  rw [decL_len, encL_len] at hk
  rw [decL_get _ (by rw [encL_len]; exact hk)]
  unfold decF
  rw [encL_get xs hk, before_encL xs (by omega)]
  have hx := validL_get hv hk
  show (if (if xs.getD k 0 = 0 then flipL (stA xs k) else stA xs k) = stA xs k then (1 : UInt8) else 0) = _
  rcases u8_01 hx with h | h <;> rw [h]
  · rw [if_pos rfl, if_neg (flip_ne (stA_le xs k))]
  · rw [if_neg (show ¬ (1 : UInt8) = 0 by decide), if_pos rfl]
theorem stA_decL (ls : List UInt8) (hv : validL ls = true) : ∀ k, k ≤ ls.length → stA (decL ls) k = before ls k := by
  intro k
  induction k with
  | zero => intro _; rfl
  | succ k ih =>
    intro hk
    have ih := ih (by omega)
    show (if (decL ls).getD k 0 = 0 then flipL (stA (decL ls) k) else stA (decL ls) k) = ls.getD k 0
    rw [ih, decL_get ls (by omega)]
    unfold decF
    have hb : (before ls k).toNat ≤ 1 := by
      unfold before
      split
      · simp
      · exact validL_get hv (by omega)
    by_cases e : ls.getD k 0 = before ls k
    · rw [if_pos e, if_neg (by decide), e]
    · rw [if_neg e, if_pos rfl]
      exact flip_of_ne (validL_get hv (by omega)) hb e
theorem encL_decL (ls : List UInt8) (hv : validL ls = true) : encL (decL ls) = ls := by
  refine list_ext_getD _ _ (by rw [encL_len, decL_len]) fun k hk => ?_
  rw [encL_len, decL_len] at hk
  rw [encL_get _ (by rw [decL_len]; exact hk), stA_decL ls hv (k + 1) (by omega)]
  rfl
theorem validL_encL (xs : List UInt8) : validL (encL xs) = true := by
  unfold validL encL
  rw [List.all_eq_true]
  intro x hx
  obtain ⟨i, _, rfl⟩ := List.mem_map.1 hx
  simpa using stA_le xs (i + 1)

end Go.Proofs.YtkmjemaajgdoiaaDoor.Lv
