/-
  Helper text, several in one; no statement is proved here.
-/
import Derived.Test.YtjecjiikgejlaaaGreatDoorLvSend
namespace Go.Proofs.YtjecjiikgejlaaaGreatDoor.Lv
open Go Go.RowKit

def bitF (xs : List UInt8) (i : Nat) : UInt8 := (xs.getD (i / 8) 0 >>> UInt8.ofNat (i % 8)) &&& 1
theorem bitsL_eq (xs : List UInt8) : (List.range (8 * xs.length)).map (bitF xs) = bitsL xs := by
  induction xs with
  | nil => rfl
  | cons x xs ih =>
    have h8 : 8 * (x :: xs).length = 8 + 8 * xs.length := by simp; omega
    rw [h8, List.range_add, List.map_append]
    have h2 : bitsL (x :: xs) = byteL x ++ bitsL xs := by simp [bitsL]
    rw [h2]
    congr 1
    rw [List.map_map, ← ih]
    apply List.map_congr_left
    intro i _
    unfold bitF
    have e1 : (8 + i) / 8 = i / 8 + 1 := by omega
    have e2 : (8 + i) % 8 = i % 8 := by omega
    simp only [Function.comp_apply, e1, e2, List.getD_cons_succ]
theorem rbit_val (x : UInt8) (j : Nat) (h : j < 8) : Value.int .u8 (((x.toNat : Int) / 2 ^ j).tmod 2) = bv ((x >>> UInt8.ofNat j) &&& 1) := by
  have H : ∀ x : Fin 256, ∀ j : Fin 8, ((x.val : Int) / 2 ^ j.val).tmod 2 = (((UInt8.ofNat x.val >>> UInt8.ofNat j.val) &&& 1).toNat : Int) := by decide +kernel
  have := H ⟨x.toNat, x.toNat_lt⟩ ⟨j, h⟩
  simp only [UInt8.ofNat_toNat] at this
  rw [this]

set_option maxHeartbeats 1600000 in
set_option maxRecDepth 100000 in
theorem refBits_any (w : World) (A : Option Addr) (c : Nat) (xs : List UInt8) (h : Rd w w.heap.size A c xs) (hl : xs.length ≤ 100000) :
    Calls Tryz.prog 50 #[.slice A xs.length c] w (Res1 w (bitsL xs)) := by
  have hmk := fun W : World => make_full (8 * (xs.length : Int)) W (by omega) (by omega)
  rw [show (8 * (xs.length : Int)).toNat = 8 * xs.length from by omega] at hmk
  go_enter Tryz.func50, Tryz.ntmps50
  go_wp2
  clear hmk
  go_loopw [4] (fun i wr => ∃ k : Nat, k ≤ 8 * xs.length ∧ i = .int .i64 k ∧ Row wr w.heap.size 5 (fillL (8 * xs.length) k (bitF xs)) ∧ Below w.heap.size w wr) (fun i _ => 8 * xs.length - (intOf i).toNat)
  case atStart => exact ⟨0, Nat.zero_le _, rfl, by rw [fillL_zero]; exact Row.made w _ _, (Below.refl _ _).alloc (Nat.le_refl _) _⟩
  case round =>
    obtain ⟨k, hk, rfl, hrow, hb⟩ := hrel
    by_cases hlt : k < 8 * xs.length
    · obtain ⟨b, off, rfl, hbB, hcell⟩ := (h.below hb).at_ (k := k / 8) (by omega)
      have hc2 := hrow.cell (i := k) (by rw [fillL_len]; exact hlt)
      have hf2 := hrow.frozen k
      have hset := hrow.set k (y := bitF xs k) rfl
      rw [fillL_set] at hset
      have hbv : bitF xs k = (xs.getD (k / 8) 0 >>> UInt8.ofNat (k % 8)) &&& 1 := rfl
      rw [hbv] at hset
      generalize (fillL (8 * xs.length) k (bitF xs)).getD k 0 = old at hc2
      have hrv := rbit_val (xs.getD (k / 8) 0) (k % 8) (by omega)
      generalize xs.getD (k / 8) 0 = x at hcell hset hrv
      have Hrv := Lib.hid hrv
      have Hset := Lib.hid hset
      clear hrv hset hbv
      have hk8 : (k : Int) / 8 < (xs.length : Int) := by omega
      have hk0 : (0 : Int) ≤ (k : Int) % 8 := by omega
      have hk7 : (k : Int) % 8 < 8 := by omega
      go_wp2
      rw [Hrv.out]
      go_roundw
      case rel => exact ⟨k + 1, by omega, by go_num, Hset.out, hb.setCell (Nat.le_refl _) _⟩
      case measure => simp [intOf]; omega
    · have hk9 : k = 8 * xs.length := by omega
      subst hk9
      have hrd := hrow.rd (by rw [fillL_len]; omega)
      rw [fillL_full, bitsL_eq] at hrd
      have hlen := bitsL_len xs
      rw [hlen] at hrd
      have Hr := Lib.hid hrd
      have Hl := Lib.hid hlen
      clear hrd hlen hrow
      go_wp2
      go_ret
      refine ⟨_, _, ?_, Hr.out, hb⟩
      rw [Hl.out]
      rfl

end Go.Proofs.YtjecjiikgejlaaaGreatDoor.Lv

namespace Go.Proofs.YtjecjiikgejlaaaGreatDoor.Lv
open Go Go.RowKit

def encP (xs : List UInt8) (k : Nat) : List UInt8 := (List.range k).map fun i => stA xs (i + 1)
theorem encP_snoc (xs : List UInt8) (k : Nat) : encP xs (k + 1) = encP xs k ++ [stA xs (k + 1)] := by simp [encP, List.range_succ]
theorem encP_full (xs : List UInt8) : encP xs xs.length = encL xs := rfl
theorem encP_len (xs : List UInt8) (k : Nat) : (encP xs k).length = k := by simp [encP]
theorem flip_val (s : UInt8) (h : s.toNat ≤ 1) : Value.int .u8 (1 - (s.toNat : Int)) = bv (flipL s) := by
  have H : ∀ x : Fin 2, 1 - (x.val : Int) = ((flipL (UInt8.ofNat x.val)).toNat : Int) := by decide +kernel
  have := H ⟨s.toNat, by omega⟩
  simp only [UInt8.ofNat_toNat] at this
  rw [this]

set_option maxHeartbeats 1600000 in
set_option maxRecDepth 100000 in
theorem refStates_own (w : World) (A : Option Addr) (c : Nat) (xs : List UInt8) (h : Rd w w.heap.size A c xs) (hl : xs.length ≤ 100000) :
    Calls Tryz.prog 47 #[.slice A xs.length c] w (ResO w 5 (encL xs)) := by
  go_enter Tryz.func47, Tryz.ntmps47
  go_wp2
  go_loopw [3, 4, 5] (fun o s i wr => ∃ k : Nat, k ≤ xs.length ∧ i = .int .i64 k ∧ s = bv (stA xs k) ∧ wr.ownsRow w.heap.size 5 1 o (encP xs k).length ((encP xs k).map bv) ∧ Below w.heap.size w wr) (fun _ _ i _ => xs.length - (intOf i).toNat)
  case atStart => exact ⟨0, Nat.zero_le _, rfl, rfl, World.ownsRow_nil _ _ _ _, Below.refl _ _⟩
  case round =>
    obtain ⟨k, hk, rfl, rfl, hown, hb⟩ := hrel
    by_cases hlt : k < xs.length
    · obtain ⟨b, off, rfl, hbB, hcell⟩ := (h.below hb).at_ hlt
      have hn := encP_snoc xs k
      have hlz : (encP xs k).length ≤ 100000 := by rw [encP_len]; omega
      have hst : stA xs (k + 1) = if xs.getD k 0 = 0 then flipL (stA xs k) else stA xs k := rfl
      have hsl := stA_le xs k
      generalize xs.getD k 0 = x at hcell hst
      generalize encP xs k = zs at hown hn hlz
      have hfv := flip_val (stA xs k) hsl
      have Hfv := Lib.hid hfv
      clear hfv
      by_cases hx : x = 0
      · subst hx
        rw [if_pos rfl] at hst
        rw [hst] at hn
        have Hst := Lib.hid hst
        have Hn := Lib.hid hn
        clear hst hn
        generalize flipL (stA xs k) = s2 at Hst Hn Hfv
        generalize stA xs k = s1 at hsl Hfv
        go_wp2_with (at_builtin; refine wpl_append1 Tryz.underlying27 Tryz.info5 rfl (.tmp 19) (.tmp 21) rfl w.heap.size u3 zs rfl hown s2 _ Hfv.out rfl (by omega) hb.size ?_; intro v' w1 hown2 hb2)
        go_roundw
        case rel => exact ⟨k + 1, by omega, by go_num, by rw [Hst.out]; exact Hfv.out, by rw [Hn.out]; exact hown2, hb.trans hb2⟩
        case measure => simp [intOf]; omega
      · have t0 : ((x.toNat : Int) == 0) = false := by
          rw [beq_eq_false_iff_ne]
          exact fun h => hx ((u8_eq_zero x).2 h)
        rw [if_neg hx] at hst
        rw [hst] at hn
        have Hst := Lib.hid hst
        have Hn := Lib.hid hn
        clear hst hn hx Hfv
        go_wp2_with (at_builtin; refine wpl_append1 Tryz.underlying27 Tryz.info5 rfl (.tmp 19) (.tmp 21) rfl w.heap.size u3 zs rfl hown (stA xs k) _ rfl rfl (by omega) hb.size ?_; intro v' w1 hown2 hb2)
        go_roundw
        case rel => exact ⟨k + 1, by omega, by go_num, by rw [Hst.out], by rw [Hn.out]; exact hown2, hb.trans hb2⟩
        case measure => simp [intOf]; omega
    · have hk9 : k = xs.length := by omega
      subst hk9
      rw [encP_full] at hown
      go_wp2
      go_ret
      exact ⟨_, rfl, hown, hb⟩
theorem refStates_any (w : World) (A : Option Addr) (c : Nat) (xs : List UInt8) (h : Rd w w.heap.size A c xs) (hl : xs.length ≤ 100000) :
    Calls Tryz.prog 47 #[.slice A xs.length c] w (Res1 w (encL xs)) :=
  (refStates_own w A c xs h hl).mono fun _ _ hh => hh.to1

def decP (xs : List UInt8) (k : Nat) : List UInt8 := (List.range k).map (decF xs)
theorem decP_snoc (xs : List UInt8) (k : Nat) : decP xs (k + 1) = decP xs k ++ [decF xs k] := by simp [decP, List.range_succ]
theorem decP_full (xs : List UInt8) : decP xs xs.length = decL xs := rfl
theorem decP_len (xs : List UInt8) (k : Nat) : (decP xs k).length = k := by simp [decP]
/-- Bytes and a truth value are returned. -/
def ResT (w : World) (ys : List UInt8) (b : Bool) (e : Ending) (w' : World) : Prop :=
  ∃ A c, e = .returned (.tuple #[.slice A ys.length c, .bool b]) ∧ Rd w' w'.heap.size A c ys ∧ Below w.heap.size w w'

set_option maxHeartbeats 1600000 in
set_option maxRecDepth 100000 in
theorem refLevels_any (w : World) (A : Option Addr) (c : Nat) (xs : List UInt8) (h : Rd w w.heap.size A c xs) (hl : xs.length ≤ 100000) :
    Calls Tryz.prog 51 #[.slice A xs.length c] w (ResT w (ifV (validL xs) (decL xs)) (validL xs)) := by
  go_enter Tryz.func51, Tryz.ntmps51
  go_wp2
  go_loopw [4, 5] (fun o i wr => ∃ k : Nat, k ≤ xs.length ∧ i = .int .i64 k ∧ validL (xs.take k) = true ∧ wr.ownsRow w.heap.size 5 1 o (decP xs k).length ((decP xs k).map bv) ∧ Below w.heap.size w wr) (fun _ i _ => xs.length - (intOf i).toNat)
  case atStart => exact ⟨0, Nat.zero_le _, rfl, rfl, World.ownsRow_nil _ _ _ _, Below.refl _ _⟩
  case round =>
    obtain ⟨k, hk, rfl, hv, hown, hb⟩ := hrel
    have Hv := Lib.hid hv
    clear hv
    by_cases hlt : k < xs.length
    · obtain ⟨b, off, rfl, hbB, hcell⟩ := (h.below hb).at_ hlt
      have hs := validL_snoc xs hlt
      have hbad := fun hx => validL_bad xs hlt hx
      have hn := decP_snoc xs k
      have hlz : (decP xs k).length ≤ 100000 := by rw [decP_len]; omega
      have hF : decF xs k = if xs.getD k 0 = before xs k then 1 else 0 := rfl
      have hq : before xs k = if k = 0 then 0 else xs.getD (k - 1) 0 := rfl
      have hy : 0 < k → wr.cell? ⟨b, off + (k - 1), none⟩ = some (bv (xs.getD (k - 1) 0)) := fun hk0 => by
        obtain ⟨b', off', hbo, _, hcelly⟩ := (h.below hb).at_ (k := k - 1) (by omega)
        obtain ⟨rfl, rfl⟩ : b = b' ∧ off = off' := by simpa using hbo
        exact hcelly
      generalize xs.getD k 0 = x at hcell hs hbad hF
      generalize before xs k = q at hF hq
      generalize decP xs k = zs at hown hn hlz
      have Hs := Lib.hid hs
      have Hb := Lib.hid hbad
      clear hs hbad
      by_cases hx : x.toNat ≤ 1
      · have hx1 : ¬ (1 : Int) < (x.toNat : Int) := by omega
        have hvn : validL (xs.take (k + 1)) = true := by rw [Hs.out, Hv.out]; simpa using hx
        have Hvn := Lib.hid hvn
        clear hvn
        have hcellq : 0 < k → wr.cell? ⟨b, off + (k - 1), none⟩ = some (bv q) := fun hk0 => by rw [hq, if_neg (by omega)]; exact hy hk0
        have hq0 : k = 0 → q = 0 := fun hk0 => by rw [hq, if_pos hk0]
        clear hy hq hx
        rcases Nat.eq_zero_or_pos k with hk0 | hk0
        · have hq1 := hq0 hk0
          subst hk0
          subst hq1
          rw [Nat.add_zero] at hcell
          clear hcellq hq0
          by_cases e : x = 0
          · rw [if_pos e] at hF
            rw [hF] at hn
            have Hn := Lib.hid hn
            subst e
            clear hF hn
            go_wp2_with (at_builtin; refine wpl_append1 Tryz.underlying27 Tryz.info5 rfl (.tmp 31) (.tmp 32) rfl w.heap.size u4 zs rfl hown 1 _ rfl rfl (by omega) hb.size ?_; intro v' w1 hown2 hb2)
            go_roundw
            case rel => exact ⟨1, by omega, by go_num, Hvn.out, by rw [Hn.out]; exact hown2, hb.trans hb2⟩
            case measure => simp [intOf]; omega
          · have t0 : ((0 : Int) == (x.toNat : Int)) = false := by
              rw [beq_eq_false_iff_ne]
              exact fun h => e ((u8_eq_zero x).2 h.symm)
            rw [if_neg e] at hF
            rw [hF] at hn
            have Hn := Lib.hid hn
            clear hF hn e
            go_wp2_with (at_builtin; refine wpl_append1 Tryz.underlying27 Tryz.info5 rfl (.tmp 34) (.tmp 35) rfl w.heap.size u4 zs rfl hown 0 _ rfl rfl (by omega) hb.size ?_; intro v' w1 hown2 hb2)
            go_roundw
            case rel => exact ⟨1, by omega, by go_num, Hvn.out, by rw [Hn.out]; exact hown2, hb.trans hb2⟩
            case measure => simp [intOf]; omega
        · have hcq := hcellq hk0
          have hki : (0 : Int) < (k : Int) := by omega
          clear hcellq hq0
          by_cases e : x = q
          · have tq : ((q.toNat : Int) == (x.toNat : Int)) = true := by rw [e]; simp
            rw [if_pos e] at hF
            rw [hF] at hn
            have Hn := Lib.hid hn
            clear hF hn e
            go_wp2_with (at_builtin; refine wpl_append1 Tryz.underlying27 Tryz.info5 rfl (.tmp 31) (.tmp 32) rfl w.heap.size u4 zs rfl hown 1 _ rfl rfl (by omega) hb.size ?_; intro v' w1 hown2 hb2)
            go_roundw
            case rel => exact ⟨k + 1, by omega, by go_num, Hvn.out, by rw [Hn.out]; exact hown2, hb.trans hb2⟩
            case measure => simp [intOf]; omega
          · have tq : ((q.toNat : Int) == (x.toNat : Int)) = false := by
              rw [beq_eq_false_iff_ne]
              exact fun h => e (UInt8.toNat_inj.1 (by omega))
            rw [if_neg e] at hF
            rw [hF] at hn
            have Hn := Lib.hid hn
            clear hF hn e
            go_wp2_with (at_builtin; refine wpl_append1 Tryz.underlying27 Tryz.info5 rfl (.tmp 34) (.tmp 35) rfl w.heap.size u4 zs rfl hown 0 _ rfl rfl (by omega) hb.size ?_; intro v' w1 hown2 hb2)
            go_roundw
            case rel => exact ⟨k + 1, by omega, by go_num, Hvn.out, by rw [Hn.out]; exact hown2, hb.trans hb2⟩
            case measure => simp [intOf]; omega
      · have hx1 : (1 : Int) < (x.toNat : Int) := by omega
        clear hF hq hy
        go_wp2
        go_ret2
        rw [Hb.out hx, ifV_false]
        exact ⟨_, _, rfl, Rd.nil _ _, hb⟩
    · have hk9 : k = xs.length := by omega
      subst hk9
      rw [decP_full] at hown
      obtain ⟨A', c', rfl, hr⟩ := Rd.of_own hown
      go_wp2
      go_ret2
      have hv := Hv.out
      rw [List.take_length] at hv
      rw [hv, ifV_true]
      exact ⟨A', c', rfl, hr, hb⟩

theorem decF_01 (xs : List UInt8) (k : Nat) : decF xs k = 0 ∨ decF xs k = 1 := by unfold decF; split <;> simp
theorem u8_01 {x : UInt8} (h : x.toNat ≤ 1) : x = 0 ∨ x = 1 := by
  rcases (by omega : x.toNat = 0 ∨ x.toNat = 1) with h | h
  · left; exact UInt8.toNat_inj.1 h
  · right; exact UInt8.toNat_inj.1 h
theorem flip_ne {x : UInt8} (h : x.toNat ≤ 1) : flipL x ≠ x := by
  rcases u8_01 h with rfl | rfl <;> decide
theorem flip_of_ne {x y : UInt8} (hx : x.toNat ≤ 1) (hy : y.toNat ≤ 1) (h : x ≠ y) : flipL y = x := by
  rcases u8_01 hx with rfl | rfl <;> rcases u8_01 hy with rfl | rfl <;> first | rfl | exact absurd rfl h
theorem encL_get (xs : List UInt8) {k : Nat} (h : k < xs.length) : (encL xs).getD k 0 = stA xs (k + 1) := by simp [encL, List.getD, h]
theorem before_encL (xs : List UInt8) {k : Nat} (h : k ≤ xs.length) : before (encL xs) k = stA xs k := by
  unfold before
  cases k with
  | zero => rfl
  | succ k =>
    rw [if_neg (by omega), Nat.add_sub_cancel, encL_get xs (by omega)]
theorem decL_get (xs : List UInt8) {k : Nat} (h : k < xs.length) : (decL xs).getD k 0 = decF xs k := by simp [decL, List.getD, h]
theorem decL_encL (xs : List UInt8) (hv : validL xs = true) : decL (encL xs) = xs := by
  refine list_ext_getD _ _ (by rw [decL_len, encL_len]) fun k hk => ?_
  rw [decL_len, encL_len] at hk
  rw [decL_get _ (by rw [encL_len]; exact hk)]
  unfold decF
  rw [encL_get xs hk, before_encL xs (by omega)]
  have hx := validL_get hv hk
  show (if (if xs.getD k 0 = 0 then flipL (stA xs k) else stA xs k) = stA xs k then (1 : UInt8) else 0) = _
  rcases u8_01 hx with h | h <;> rw [h]
  · rw [if_pos rfl, if_neg (flip_ne (stA_le xs k))]
  · rw [if_neg (show ¬ (1 : UInt8) = 0 by decide), if_pos rfl]
theorem stA_decL (ls : List UInt8) (hv : validL ls = true) : ∀ k, k ≤ ls.length → stA (decL ls) k = before ls k := by
  intro k
  induction k with
  | zero => intro _; rfl
  | succ k ih =>
    intro hk
    have ih := ih (by omega)
    show (if (decL ls).getD k 0 = 0 then flipL (stA (decL ls) k) else stA (decL ls) k) = ls.getD k 0
    rw [ih, decL_get ls (by omega)]
    unfold decF
    have hb : (before ls k).toNat ≤ 1 := by
      unfold before
      split
      · simp
      · exact validL_get hv (by omega)
    by_cases e : ls.getD k 0 = before ls k
    · rw [if_pos e, if_neg (by decide), e]
    · rw [if_neg e, if_pos rfl]
      exact flip_of_ne (validL_get hv (by omega)) hb e
theorem encL_decL (ls : List UInt8) (hv : validL ls = true) : encL (decL ls) = ls := by
  refine list_ext_getD _ _ (by rw [encL_len, decL_len]) fun k hk => ?_
  rw [encL_len, decL_len] at hk
  rw [encL_get _ (by rw [decL_len]; exact hk), stA_decL ls hv (k + 1) (by omega)]
  rfl
theorem validL_encL (xs : List UInt8) : validL (encL xs) = true := by
  unfold validL encL
  rw [List.all_eq_true]
  intro x hx
  obtain ⟨i, _, rfl⟩ := List.mem_map.1 hx
  simpa using stA_le xs (i + 1)

end Go.Proofs.YtjecjiikgejlaaaGreatDoor.Lv

namespace Go.Proofs.YtjecjiikgejlaaaGreatDoor.Lv
open Go Go.RowKit

theorem bitsL_get (xs : List UInt8) {i : Nat} (h : i < 8 * xs.length) : (bitsL xs).getD i 0 = bitF xs i := by
  rw [← bitsL_eq]
  simp [List.getD, h]
theorem validL_bitsL (xs : List UInt8) : validL (bitsL xs) = true := by
  rw [← bitsL_eq]
  unfold validL
  rw [List.all_eq_true]
  intro x hx
  obtain ⟨i, _, rfl⟩ := List.mem_map.1 hx
  unfold bitF
  rw [UInt8.toNat_and]
  have := Nat.and_le_right (n := (xs.getD (i / 8) 0 >>> UInt8.ofNat (i % 8)).toNat) (m := (1 : UInt8).toNat)
  simpa using this
theorem byte_back (x : UInt8) : (0 : UInt8) ||| ((x >>> UInt8.ofNat 0 &&& 1) <<< UInt8.ofNat 0) ||| ((x >>> UInt8.ofNat 1 &&& 1) <<< UInt8.ofNat 1) ||| ((x >>> UInt8.ofNat 2 &&& 1) <<< UInt8.ofNat 2) ||| ((x >>> UInt8.ofNat 3 &&& 1) <<< UInt8.ofNat 3) ||| ((x >>> UInt8.ofNat 4 &&& 1) <<< UInt8.ofNat 4) ||| ((x >>> UInt8.ofNat 5 &&& 1) <<< UInt8.ofNat 5) ||| ((x >>> UInt8.ofNat 6 &&& 1) <<< UInt8.ofNat 6) ||| ((x >>> UInt8.ofNat 7 &&& 1) <<< UInt8.ofNat 7) = x := by
  have H : ∀ x : Fin 256, (0 : UInt8) ||| ((UInt8.ofNat x.val >>> UInt8.ofNat 0 &&& 1) <<< UInt8.ofNat 0) ||| ((UInt8.ofNat x.val >>> UInt8.ofNat 1 &&& 1) <<< UInt8.ofNat 1) ||| ((UInt8.ofNat x.val >>> UInt8.ofNat 2 &&& 1) <<< UInt8.ofNat 2) ||| ((UInt8.ofNat x.val >>> UInt8.ofNat 3 &&& 1) <<< UInt8.ofNat 3) ||| ((UInt8.ofNat x.val >>> UInt8.ofNat 4 &&& 1) <<< UInt8.ofNat 4) ||| ((UInt8.ofNat x.val >>> UInt8.ofNat 5 &&& 1) <<< UInt8.ofNat 5) ||| ((UInt8.ofNat x.val >>> UInt8.ofNat 6 &&& 1) <<< UInt8.ofNat 6) ||| ((UInt8.ofNat x.val >>> UInt8.ofNat 7 &&& 1) <<< UInt8.ofNat 7) = UInt8.ofNat x.val := by decide +kernel
  have := H ⟨x.toNat, x.toNat_lt⟩
  simpa only [UInt8.ofNat_toNat] using this
theorem bytesL_bitsL (xs : List UInt8) : bytesL (bitsL xs) = xs := by
  have hl : (bitsL xs).length / 8 = xs.length := by rw [bitsL_len]; omega
  refine list_ext_getD _ _ (by rw [bytesL_len, hl]) fun j hj => ?_
  rw [bytesL_len, hl] at hj
  have e0 : (bytesL (bitsL xs)).getD j 0 = accB (bitsL xs) j 8 := by simp [bytesL, List.getD, hl, hj]
  rw [e0]
  have hb : ∀ t, t < 8 → (bitsL xs).getD (8 * j + t) 0 = (xs.getD j 0 >>> UInt8.ofNat t) &&& 1 := by
    intro t ht
    rw [bitsL_get xs (by omega)]
    unfold bitF
    rw [show (8 * j + t) / 8 = j from by omega, show (8 * j + t) % 8 = t from by omega]
  simp only [accB]
  rw [hb 0 (by omega), hb 1 (by omega), hb 2 (by omega), hb 3 (by omega), hb 4 (by omega), hb 5 (by omega), hb 6 (by omega), hb 7 (by omega)]
  exact byte_back _
theorem bit_back (b0 b1 b2 b3 b4 b5 b6 b7 : UInt8) (h0 : b0.toNat ≤ 1) (h1 : b1.toNat ≤ 1) (h2 : b2.toNat ≤ 1) (h3 : b3.toNat ≤ 1) (h4 : b4.toNat ≤ 1) (h5 : b5.toNat ≤ 1) (h6 : b6.toNat ≤ 1) (h7 : b7.toNat ≤ 1) (j : Nat) (hj : j < 8) :
    (((0 : UInt8) ||| b0 <<< UInt8.ofNat 0 ||| b1 <<< UInt8.ofNat 1 ||| b2 <<< UInt8.ofNat 2 ||| b3 <<< UInt8.ofNat 3 ||| b4 <<< UInt8.ofNat 4 ||| b5 <<< UInt8.ofNat 5 ||| b6 <<< UInt8.ofNat 6 ||| b7 <<< UInt8.ofNat 7) >>> UInt8.ofNat j) &&& 1 = [b0, b1, b2, b3, b4, b5, b6, b7].getD j 0 := by
  have c : ∀ x : UInt8, x.toNat ≤ 1 → x = 0 ∨ x = 1 := by
    intro x hx
    rcases (by omega : x.toNat = 0 ∨ x.toNat = 1) with h | h
    · left; exact UInt8.toNat_inj.1 h
    · right; exact UInt8.toNat_inj.1 h
  have H : ∀ a0 a1 a2 a3 a4 a5 a6 a7 : Bool, ∀ j : Fin 8, (((0 : UInt8) ||| (if a0 then 1 else 0 : UInt8) <<< UInt8.ofNat 0 ||| (if a1 then 1 else 0 : UInt8) <<< UInt8.ofNat 1 ||| (if a2 then 1 else 0 : UInt8) <<< UInt8.ofNat 2 ||| (if a3 then 1 else 0 : UInt8) <<< UInt8.ofNat 3 ||| (if a4 then 1 else 0 : UInt8) <<< UInt8.ofNat 4 ||| (if a5 then 1 else 0 : UInt8) <<< UInt8.ofNat 5 ||| (if a6 then 1 else 0 : UInt8) <<< UInt8.ofNat 6 ||| (if a7 then 1 else 0 : UInt8) <<< UInt8.ofNat 7) >>> UInt8.ofNat j.val) &&& 1 = [(if a0 then 1 else 0 : UInt8), if a1 then 1 else 0, if a2 then 1 else 0, if a3 then 1 else 0, if a4 then 1 else 0, if a5 then 1 else 0, if a6 then 1 else 0, if a7 then 1 else 0].getD j.val 0 := by decide +kernel
  have e : ∀ x : UInt8, x.toNat ≤ 1 → ∃ a : Bool, x = if a then 1 else 0 := by
    intro x hx
    rcases c x hx with h | h
    · exact ⟨false, h⟩
    · exact ⟨true, h⟩
  obtain ⟨a0, rfl⟩ := e b0 h0
  obtain ⟨a1, rfl⟩ := e b1 h1
  obtain ⟨a2, rfl⟩ := e b2 h2
  obtain ⟨a3, rfl⟩ := e b3 h3
  obtain ⟨a4, rfl⟩ := e b4 h4
  obtain ⟨a5, rfl⟩ := e b5 h5
  obtain ⟨a6, rfl⟩ := e b6 h6
  obtain ⟨a7, rfl⟩ := e b7 h7
  exact H a0 a1 a2 a3 a4 a5 a6 a7 ⟨j, hj⟩
theorem bitsL_bytesL (ys : List UInt8) (hv : validL ys = true) (h8 : ys.length % 8 = 0) : bitsL (bytesL ys) = ys := by
  have hl : 8 * (bytesL ys).length = ys.length := by rw [bytesL_len]; omega
  refine list_ext_getD _ _ (by rw [bitsL_len, hl]) fun i hi => ?_
  rw [bitsL_len] at hi
  rw [bitsL_get _ hi]
  rw [hl] at hi
  unfold bitF
  have hj : i / 8 < ys.length / 8 := by omega
  have e0 : (bytesL ys).getD (i / 8) 0 = accB ys (i / 8) 8 := by simp [bytesL, List.getD, hj]
  rw [e0]
  have hb : ∀ t, t < 8 → (ys.getD (8 * (i / 8) + t) 0).toNat ≤ 1 := fun t ht => validL_get hv (by omega)
  simp only [accB]
  have := bit_back _ _ _ _ _ _ _ _ (hb 0 (by omega)) (hb 1 (by omega)) (hb 2 (by omega)) (hb 3 (by omega)) (hb 4 (by omega)) (hb 5 (by omega)) (hb 6 (by omega)) (hb 7 (by omega)) (i % 8) (by omega)
  refine Eq.trans this ?_
  rcases (by omega : i % 8 = 0 ∨ i % 8 = 1 ∨ i % 8 = 2 ∨ i % 8 = 3 ∨ i % 8 = 4 ∨ i % 8 = 5 ∨ i % 8 = 6 ∨ i % 8 = 7) with h | h | h | h | h | h | h | h <;> rw [h] <;> simp only [List.getD_cons_zero, List.getD_cons_succ] <;> congr 1 <;> omega

end Go.Proofs.YtjecjiikgejlaaaGreatDoor.Lv

namespace Go.Proofs.YtjecjiikgejlaaaGreatDoor.Lv
open Go Go.RowKit

theorem stepU_six (acc : List UInt8) : stepU (some (6, acc)) 0 = some (0, acc) := by
  unfold stepU onesB
  simp
theorem stepU_lt {n : Nat} (h : n < 6) (acc : List UInt8) (x : UInt8) : stepU (some (n, acc)) x = some (onesB n x, acc ++ [x]) := by
  show (if n < 6 then some (onesB n x, acc ++ [x]) else if x = 1 then none else some (onesB n x, acc)) = _
  rw [if_pos h]
/-- What is stuffed behind n bits 1, and the bits 1 behind it. -/
def emit (n : Nat) : List UInt8 → Nat × List UInt8
  | [] => (n, [])
  | x :: xs => if onesB n x = 6 then ((emit 0 xs).1, x :: 0 :: (emit 0 xs).2) else ((emit (onesB n x) xs).1, x :: (emit (onesB n x) xs).2)
theorem foldS_emit (xs : List UInt8) : ∀ (n : Nat) (out : List UInt8), xs.foldl stepS (n, out) = ((emit n xs).1, out ++ (emit n xs).2) := by
  induction xs with
  | nil => intro n out; simp [emit]
  | cons x xs ih =>
    intro n out
    simp only [List.foldl_cons, stepS, emit]
    split
    · rw [ih]; simp
    · rw [ih]; simp
theorem emit_le (xs : List UInt8) : ∀ n, n ≤ 5 → (emit n xs).1 ≤ 5 := by
  induction xs with
  | nil => intro n h; exact h
  | cons x xs ih =>
    intro n h
    have := onesB_le n x
    simp only [emit]
    split
    · exact ih 0 (by omega)
    · exact ih _ (by omega)
theorem foldU_emit (xs : List UInt8) : ∀ (n : Nat) (acc : List UInt8), n ≤ 5 → (emit n xs).2.foldl stepU (some (n, acc)) = some ((emit n xs).1, acc ++ xs) := by
  induction xs with
  | nil => intro n acc _; simp [emit]
  | cons x xs ih =>
    intro n acc h
    have hb := onesB_le n x
    simp only [emit]
    split
    · rename_i e
      simp only [List.foldl_cons]
      rw [stepU_lt (by omega), e, stepU_six, ih 0 _ (by omega)]
      simp
    · simp only [List.foldl_cons]
      rw [stepU_lt (by omega), ih _ _ (by omega)]
      simp
theorem stuffL_emit (xs : List UInt8) : stuffL xs = (emit 0 xs).2 := by
  unfold stuffL stuffS
  rw [foldS_emit]
  simp
theorem unstuff_stuff (xs : List UInt8) : unstuffL (stuffL xs) = some xs := by
  have h := foldU_emit xs 0 [] (by omega)
  have hl := emit_le xs 0 (by omega)
  unfold unstuffL unS
  rw [stuffL_emit, h]
  simp only [List.nil_append]
  rw [if_neg (by omega)]

/-- What is accepted so far, stuffed again. -/
theorem unS_stuff (ys : List UInt8) (hv : validL ys = true) : ∀ k, k ≤ ys.length → ∀ n us, unS (ys.take k) = some (n, us) → (n < 6 ∧ stuffS us = (n, ys.take k)) ∨ (n = 6 ∧ stuffS us = (0, ys.take k ++ [0])) := by
  intro k
  induction k with
  | zero =>
    intro _ n us h
    simp [unS] at h
    obtain ⟨rfl, rfl⟩ := h
    exact .inl ⟨by omega, rfl⟩
  | succ k ih =>
    intro hk n us h
    rw [unS_snoc ys (by omega)] at h
    rw [take_snoc ys (by omega)]
    cases hu : unS (ys.take k) with
    | none => rw [hu] at h; cases h
    | some p =>
      obtain ⟨m, zs⟩ := p
      have hx := validL_get hv (k := k) (by omega)
      rw [hu] at h
      generalize ys.getD k 0 = x at h hx
      rcases ih (by omega) m zs hu with ⟨hm, hs⟩ | ⟨rfl, hs⟩
      · rw [stepU_lt hm] at h
        simp only [Option.some.injEq, Prod.mk.injEq] at h
        obtain ⟨rfl, rfl⟩ := h
        have hb := onesB_le m x
        have he : stuffS (zs ++ [x]) = stepS (stuffS zs) x := by simp [stuffS, List.foldl_append]
        rw [he, hs]
        unfold stepS
        by_cases e : onesB m x = 6
        · rw [if_pos e]
          exact .inr ⟨e, rfl⟩
        · rw [if_neg e]
          exact .inl ⟨by omega, rfl⟩
      · rcases u8_01 hx with rfl | rfl
        · rw [stepU_six] at h
          simp only [Option.some.injEq, Prod.mk.injEq] at h
          obtain ⟨rfl, rfl⟩ := h
          exact .inl ⟨by omega, hs⟩
        · simp [stepU] at h
theorem stuff_unstuff (ys us : List UInt8) (hv : validL ys = true) (h : unstuffL ys = some us) : stuffL us = ys := by
  unfold unstuffL at h
  cases hu : unS ys with
  | none => rw [hu] at h; cases h
  | some p =>
    obtain ⟨n, zs⟩ := p
    rw [hu] at h
    simp only at h
    split at h
    · cases h
    · rename_i hn
      obtain rfl := Option.some.inj h
      have := unS_stuff ys hv ys.length (Nat.le_refl _) n zs (by rw [List.take_length]; exact hu)
      rw [List.take_length] at this
      rcases this with ⟨_, hs⟩ | ⟨h6, _⟩
      · unfold stuffL; rw [hs]
      · exact absurd h6 hn
theorem emit_valid (xs : List UInt8) (hv : validL xs = true) : ∀ n, validL (emit n xs).2 = true := by
  induction xs with
  | nil => intro n; rfl
  | cons x xs ih =>
    intro n
    have h1 : x.toNat ≤ 1 ∧ validL xs = true := by simpa [validL] using hv
    have ih := ih h1.2
    simp only [emit]
    unfold validL at ih ⊢
    split
    · simp only [List.all_cons, Bool.and_eq_true, decide_eq_true_eq]
      exact ⟨h1.1, by simp, ih 0⟩
    · simp only [List.all_cons, Bool.and_eq_true, decide_eq_true_eq]
      exact ⟨h1.1, ih _⟩
theorem validL_stuffL (xs : List UInt8) (hv : validL xs = true) : validL (stuffL xs) = true := by
  rw [stuffL_emit]
  exact emit_valid xs hv 0
theorem validL_append (xs ys : List UInt8) (h1 : validL xs = true) (h2 : validL ys = true) : validL (xs ++ ys) = true := by
  unfold validL at h1 h2 ⊢
  rw [List.all_append, h1, h2]
  rfl

theorem end_split (l : List UInt8) (h : hasEndL l = true) : l = l.take (l.length - 3) ++ endL := by
  have h3 := hasEndL_len l h
  unfold hasEndL at h
  rw [Bool.and_eq_true, decide_eq_true_eq, decide_eq_true_eq] at h
  conv => lhs; rw [← List.take_append_drop (l.length - 3) l, h.2]
theorem recv_send (xs : List UInt8) (h1 : 0 < xs.length) (h2 : xs.length ≤ 1027) : recvL (sendL xs) = (xs, 0) := by
  have hvb := validL_append syncL (bitsL xs) (by decide) (validL_bitsL xs)
  have hz := validL_stuffL _ hvb
  have hl : (sendL xs).length - 3 = (encL (stuffL (syncL ++ bitsL xs))).length := by simp [sendL, endL]
  have ht : (sendL xs).take ((sendL xs).length - 3) = encL (stuffL (syncL ++ bitsL xs)) := by
    rw [hl]
    unfold sendL
    rw [List.take_left]
  have he : hasEndL (sendL xs) = true := by
    unfold hasEndL
    rw [Bool.and_eq_true, decide_eq_true_eq, decide_eq_true_eq]
    refine ⟨by simp [sendL, endL], ?_⟩
    rw [hl]
    unfold sendL
    rw [List.drop_left]
  unfold recvL
  rw [if_pos he, ht, if_pos (validL_encL _), decL_encL _ hz, unstuff_stuff]
  simp only
  have hs : hasSyncL (syncL ++ bitsL xs) = true := by
    unfold hasSyncL
    rw [decide_eq_true_eq]
    rfl
  rw [if_pos hs]
  have hd : (syncL ++ bitsL xs).drop 8 = bitsL xs := rfl
  rw [hd]
  unfold contentL
  rw [bitsL_len, if_neg (by omega), if_neg (by omega), if_neg (by omega), bytesL_bitsL]
theorem recv_ok (l ys : List UInt8) (h : recvL l = (ys, 0)) : sendL ys = l ∧ 0 < ys.length ∧ ys.length ≤ 1027 := by
  unfold recvL at h
  split at h
  · rename_i he
    split at h
    · rename_i hv
      cases hu : unstuffL (decL (l.take (l.length - 3))) with
      | none => rw [hu] at h; simp at h
      | some u =>
        rw [hu] at h
        simp only at h
        split at h
        · rename_i hs
          have hdv := validL_decL (l.take (l.length - 3))
          have huv := (unstuffL_props _ hdv u hu).1
          have h8 := hasSyncL_len u hs
          have hsy : u.take 8 = syncL := by unfold hasSyncL at hs; simpa using hs
          unfold contentL at h
          split at h
          · simp at h
          · rename_i hm
            split at h
            · simp at h
            · rename_i h0
              split at h
              · simp at h
              · rename_i hb
                simp only [Prod.mk.injEq, and_true] at h
                have hback := bitsL_bytesL (u.drop 8) (validL_drop u 8 huv) (by omega)
                rw [h] at hback
                have hlen : ys.length = (u.drop 8).length / 8 := by rw [← h, bytesL_len]
                refine ⟨?_, by omega, by omega⟩
                unfold sendL
                rw [hback, ← hsy, List.take_append_drop, stuff_unstuff _ u hdv hu, encL_decL _ hv]
                exact (end_split l he).symm
        · simp at h
    · simp at h
  · simp at h

end Go.Proofs.YtjecjiikgejlaaaGreatDoor.Lv

namespace Go.Proofs.YtjecjiikgejlaaaGreatDoor.Lv
open Go Go.RowKit

/-- Bits as a number, bytes as a number: the first is lowest. -/
def numB : List UInt8 → Nat
  | [] => 0
  | b :: bs => b.toNat + 2 * numB bs
def leN : List UInt8 → Nat
  | [] => 0
  | b :: bs => b.toNat + 2 ^ 8 * leN bs
theorem numB_append (a b : List UInt8) : numB (a ++ b) = numB a + 2 ^ a.length * numB b := by
  induction a with
  | nil => simp [numB]
  | cons x xs ih =>
    show x.toNat + 2 * numB (xs ++ b) = x.toNat + 2 * numB xs + 2 ^ (xs.length + 1) * numB b
    rw [ih, Nat.pow_succ, Nat.mul_comm (2 ^ xs.length) 2, Nat.mul_assoc]; omega
theorem numB_lt (xs : List UInt8) (hv : validL xs = true) : numB xs < 2 ^ xs.length := by
  induction xs with
  | nil => decide
  | cons x xs ih =>
    have h1 : x.toNat ≤ 1 ∧ validL xs = true := by simpa [validL] using hv
    have := ih h1.2
    show x.toNat + 2 * numB xs < 2 ^ (xs.length + 1)
    rw [Nat.pow_succ]; omega
theorem numB_byte (x : UInt8) : numB (byteL x) = x.toNat := by
  have H : ∀ x : Fin 256, numB (byteL (UInt8.ofNat x.val)) = x.val := by decide +kernel
  have := H ⟨x.toNat, x.toNat_lt⟩
  simpa only [UInt8.ofNat_toNat] using this
theorem numB_bits (xs : List UInt8) : numB (bitsL xs) = leN xs := by
  induction xs with
  | nil => rfl
  | cons x xs ih =>
    show numB (byteL x ++ bitsL xs) = x.toNat + 2 ^ 8 * leN xs
    rw [numB_append, numB_byte, byteL_len, ih]
theorem xor_tail {k a b : Nat} (C : Nat) (ha : a < 2 ^ k) (hb : b < 2 ^ k) : (a + 2 ^ k * C) ^^^ (b + 2 ^ k * C) = a ^^^ b := by
  apply Nat.eq_of_testBit_eq
  intro i
  rw [Nat.testBit_xor, Nat.testBit_xor, Nat.add_comm a, Nat.add_comm b, Nat.testBit_two_pow_mul_add _ ha, Nat.testBit_two_pow_mul_add _ hb]
  by_cases hi : i < k
  · rw [if_pos hi, if_pos hi]
  · rw [if_neg hi, if_neg hi, Nat.testBit_lt_two_pow (Nat.lt_of_lt_of_le ha (Nat.pow_le_pow_right (by omega) (by omega))), Nat.testBit_lt_two_pow (Nat.lt_of_lt_of_le hb (Nat.pow_le_pow_right (by omega) (by omega)))]
    simp
theorem xor_front {k a : Nat} (B C : Nat) (ha : a < 2 ^ k) : (a + 2 ^ k * B) ^^^ (a + 2 ^ k * C) = 2 ^ k * (B ^^^ C) := by
  apply Nat.eq_of_testBit_eq
  intro i
  rw [Nat.testBit_xor, Nat.add_comm a, Nat.add_comm a, Nat.testBit_two_pow_mul_add _ ha, Nat.testBit_two_pow_mul_add _ ha, Nat.testBit_two_pow_mul]
  by_cases hi : i < k
  · rw [if_pos hi, if_pos hi, decide_eq_false (by omega : ¬ k ≤ i)]; simp
  · rw [if_neg hi, if_neg hi, Nat.testBit_xor, decide_eq_true (by omega : k ≤ i)]; simp

/-- What is left of bits behind n bits 1, when the inserted ones are taken out. -/
def unF : Nat → List UInt8 → Option (List UInt8)
  | n, [] => if n = 6 then none else some []
  | n, x :: xs => if n < 6 then (unF (onesB n x) xs).map (x :: ·) else if x = 1 then none else unF 0 xs
theorem unF_fold (xs : List UInt8) (hv : validL xs = true) : ∀ n acc, n ≤ 6 → (match xs.foldl stepU (some (n, acc)) with | none => none | some (m, out) => if m = 6 then none else some out) = (unF n xs).map (acc ++ ·) := by
  induction xs with
  | nil => intro n acc _; simp only [List.foldl_nil, unF]; split <;> simp
  | cons x xs ih =>
    have h1 : x.toNat ≤ 1 ∧ validL xs = true := by simpa [validL] using hv
    intro n acc hn
    have hb := onesB_le n x
    simp only [List.foldl_cons, unF]
    by_cases h : n < 6
    · rw [stepU_lt h, ih h1.2 _ _ (by omega), if_pos h]
      cases unF (onesB n x) xs <;> simp
    · obtain rfl : n = 6 := by omega
      rcases u8_01 h1.1 with rfl | rfl
      · rw [stepU_six, ih h1.2 _ _ (by omega)]; simp
      · have hn' : ∀ ys : List UInt8, ys.foldl stepU none = none := by
          intro ys
          induction ys with
          | nil => rfl
          | cons y ys ih => exact ih
        have : stepU (some (6, acc)) 1 = none := by simp [stepU]
        rw [this, hn']; simp
theorem unF_unstuff (xs : List UInt8) (hv : validL xs = true) : unstuffL xs = unF 0 xs := by
  have := unF_fold xs hv 0 [] (by omega)
  unfold unstuffL unS
  refine Eq.trans ?_ (this.trans (by cases unF 0 xs <;> simp))
  rfl
theorem unF_split (p q q' : List UInt8) : ∀ n, n ≤ 6 → ∀ u u', unF n (p ++ q) = some u → unF n (p ++ q') = some u' → ∃ m a v v', m ≤ 6 ∧ u = a ++ v ∧ u' = a ++ v' ∧ unF m q = some v ∧ unF m q' = some v' := by
  induction p with
  | nil => intro n hn u u' h h'; exact ⟨n, [], u, u', hn, rfl, rfl, h, h'⟩
  | cons x xs ih =>
    intro n hn u u' h h'
    have hb := onesB_le n x
    simp only [List.cons_append, unF] at h h'
    by_cases h6 : n < 6
    · rw [if_pos h6, Option.map_eq_some_iff] at h h'
      obtain ⟨w, h, rfl⟩ := h
      obtain ⟨w', h', rfl⟩ := h'
      obtain ⟨m, a, v, v', hm, rfl, rfl, e, e'⟩ := ih _ (by omega) _ _ h h'
      exact ⟨m, x :: a, v, v', hm, rfl, rfl, e, e'⟩
    · rw [if_neg h6] at h h'
      split at h
      · cases h
      · rename_i hx
        rw [if_neg hx] at h'
        exact ih _ (by omega) _ _ h h'

/-- The same bits behind fewer and behind more bits 1. -/
theorem unF_tail (xs : List UInt8) (hv : validL xs = true) : ∀ n m a b, n < m → m ≤ 6 → unF n xs = some a → unF m xs = some b → a = b ∨ ∃ k c, m + k = 6 ∧ a = List.replicate k 1 ++ 0 :: c ∧ b = List.replicate k 1 ++ c := by
  induction xs with
  | nil =>
    intro n m a b _ _ ha hb
    simp only [unF] at ha hb
    split at ha
    · cases ha
    split at hb
    · cases hb
    exact .inl ((Option.some.inj ha).symm.trans (Option.some.inj hb))
  | cons x xs ih =>
    have h1 : x.toNat ≤ 1 ∧ validL xs = true := by simpa [validL] using hv
    intro n m a b hnm hm ha hb
    simp only [unF] at ha hb
    rw [if_pos (by omega), Option.map_eq_some_iff] at ha
    obtain ⟨a', ha, rfl⟩ := ha
    rcases u8_01 h1.1 with rfl | rfl
    · have e0 : ∀ n, onesB n 0 = 0 := fun n => by simp [onesB]
      rw [e0] at ha hb
      by_cases h6 : m < 6
      · rw [if_pos h6, Option.map_eq_some_iff] at hb
        obtain ⟨b', hb, rfl⟩ := hb
        rw [ha] at hb
        exact .inl (by rw [Option.some.inj hb])
      · rw [if_neg h6, if_neg (by decide), ha] at hb
        exact .inr ⟨0, a', by omega, rfl, by rw [← Option.some.inj hb]; rfl⟩
    · have e1 : ∀ n, onesB n 1 = n + 1 := fun n => by simp [onesB]
      rw [e1] at ha hb
      by_cases h6 : m < 6
      · rw [if_pos h6, Option.map_eq_some_iff] at hb
        obtain ⟨b', hb, rfl⟩ := hb
        rcases ih h1.2 (n + 1) (m + 1) a' b' (by omega) (by omega) ha hb with rfl | ⟨k, c, hk, rfl, rfl⟩
        · exact .inl rfl
        · exact .inr ⟨k + 1, c, by omega, by simp [List.replicate_succ], by simp [List.replicate_succ]⟩
      · rw [if_neg h6, if_pos rfl] at hb; cases hb

def Near (v v' : List UInt8) : Prop := v.length = v'.length ∧ (numB v ^^^ numB v' = 1 ∨ numB v ^^^ numB v' = 3 ∨ numB v ^^^ numB v' = 65)
theorem Near.symm {v v' : List UInt8} (h : Near v v') : Near v' v := ⟨h.1.symm, by rw [Nat.xor_comm]; exact h.2⟩

theorem near_two0 {n : Nat} (hn : n ≤ 6) (y : UInt8) (T : List UInt8) (hy : y.toNat ≤ 1) (hv : validL T = true) (v v' : List UInt8) (h : unF n (0 :: y :: T) = some v) (h' : unF n (1 :: (1 - y) :: T) = some v') (hl : v.length % 8 = v'.length % 8) : Near v v' := by
  have e0 : ∀ n, onesB n 0 = 0 := fun n => by simp [onesB]
  have e1 : ∀ n, onesB n 1 = n + 1 := fun n => by simp [onesB]
  simp only [unF] at h h'
  by_cases h6 : n < 6
  · rw [if_pos h6, Option.map_eq_some_iff] at h h'
    obtain ⟨v1, h, rfl⟩ := h
    obtain ⟨v1', h', rfl⟩ := h'
    rw [e0, if_pos (by omega), Option.map_eq_some_iff] at h
    obtain ⟨v2, h, rfl⟩ := h
    rw [e1] at h'
    rcases u8_01 hy with rfl | rfl
    · rw [e0] at h
      rw [show (1 - 0 : UInt8) = 1 from rfl, e1] at h'
      by_cases h5 : n + 1 < 6
      · rw [if_pos h5, Option.map_eq_some_iff] at h'
        obtain ⟨v2', h', rfl⟩ := h'
        rcases unF_tail T hv 0 (n + 1 + 1) _ _ (by omega) (by omega) h h' with rfl | ⟨k, c, hk, rfl, rfl⟩
        · refine ⟨rfl, .inr (.inl ?_)⟩
          show ((0 : UInt8).toNat + 2 * ((0 : UInt8).toNat + 2 * numB v2)) ^^^ ((1 : UInt8).toNat + 2 * ((1 : UInt8).toNat + 2 * numB v2)) = 3
          have := xor_tail (k := 2) (a := 0) (b := 3) (numB v2) (by decide) (by decide)
          rw [show (0 : UInt8).toNat + 2 * ((0 : UInt8).toNat + 2 * numB v2) = 0 + 2 ^ 2 * numB v2 from by simp only [UInt8.toNat_zero]; omega, show (1 : UInt8).toNat + 2 * ((1 : UInt8).toNat + 2 * numB v2) = 3 + 2 ^ 2 * numB v2 from by simp only [UInt8.toNat_one]; omega, this]
          rfl
        · exfalso
          simp only [List.length_cons, List.length_append, List.length_replicate] at hl
          omega
      · rw [if_neg h5, if_pos rfl] at h'; cases h'
    · rw [e1] at h
      rw [show (1 - 1 : UInt8) = 0 from rfl] at h'
      by_cases h5 : n + 1 < 6
      · rw [if_pos h5, Option.map_eq_some_iff] at h'
        obtain ⟨v2', h', rfl⟩ := h'
        rw [e0] at h'
        rcases unF_tail T hv 0 1 _ _ (by omega) (by omega) h' h with rfl | ⟨k, c, hk, rfl, rfl⟩
        · refine ⟨rfl, .inr (.inl ?_)⟩
          show ((0 : UInt8).toNat + 2 * ((1 : UInt8).toNat + 2 * numB v2')) ^^^ ((1 : UInt8).toNat + 2 * ((0 : UInt8).toNat + 2 * numB v2')) = 3
          have := xor_tail (k := 2) (a := 2) (b := 1) (numB v2') (by decide) (by decide)
          rw [show (0 : UInt8).toNat + 2 * ((1 : UInt8).toNat + 2 * numB v2') = 2 + 2 ^ 2 * numB v2' from by simp only [UInt8.toNat_zero, UInt8.toNat_one]; omega, show (1 : UInt8).toNat + 2 * ((0 : UInt8).toNat + 2 * numB v2') = 1 + 2 ^ 2 * numB v2' from by simp only [UInt8.toNat_one, UInt8.toNat_zero]; omega, this]
          rfl
        · exfalso
          simp only [List.length_cons, List.length_append, List.length_replicate] at hl
          omega
      · rw [if_neg h5, if_neg (by decide)] at h'
        rcases unF_tail T hv 0 1 _ _ (by omega) (by omega) h' h with rfl | ⟨k, c, hk, rfl, rfl⟩
        · exfalso
          simp only [List.length_cons] at hl
          omega
        · obtain rfl : k = 5 := by omega
          refine ⟨by simp, .inr (.inr ?_)⟩
          have ea : numB (0 :: 1 :: (List.replicate 5 1 ++ c)) = 126 + 2 ^ 7 * numB c := by
            have := numB_append [0, 1, 1, 1, 1, 1, 1] c
            exact this
          have eb : numB (1 :: (List.replicate 5 1 ++ 0 :: c)) = 63 + 2 ^ 7 * numB c := by
            have := numB_append [1, 1, 1, 1, 1, 1, 0] c
            exact this
          rw [ea, eb, xor_tail (numB c) (by decide) (by decide)]
          rfl
  · rw [if_neg h6] at h'; simp at h'
theorem near_two {n : Nat} (hn : n ≤ 6) (x y : UInt8) (T : List UInt8) (hx : x.toNat ≤ 1) (hy : y.toNat ≤ 1) (hv : validL T = true) (v v' : List UInt8) (h : unF n (x :: y :: T) = some v) (h' : unF n ((1 - x) :: (1 - y) :: T) = some v') (hl : v.length % 8 = v'.length % 8) : Near v v' := by
  rcases u8_01 hx with rfl | rfl
  · exact near_two0 hn y T hy hv v v' h h' hl
  · have hy' : (1 - (1 - y) : UInt8) = y ∧ (1 - y).toNat ≤ 1 := by rcases u8_01 hy with rfl | rfl <;> decide
    exact (near_two0 hn (1 - y) T hy'.2 hv v' v h' (by rw [hy'.1]; exact h) hl.symm).symm
theorem near_one {n : Nat} (x : UInt8) (hx : x.toNat ≤ 1) (v v' : List UInt8) (h : unF n [x] = some v) (h' : unF n [1 - x] = some v') : Near v v' := by
  have H : ∀ v v' : List UInt8, unF n [0] = some v → unF n [1] = some v' → Near v v' := by
    intro v v' h h'
    have e1 : ∀ n, onesB n 1 = n + 1 := fun n => by simp [onesB]
    simp only [unF] at h h'
    by_cases h6 : n < 6
    · rw [if_pos h6, Option.map_eq_some_iff] at h h'
      obtain ⟨v1, h, rfl⟩ := h
      obtain ⟨v1', h', rfl⟩ := h'
      split at h
      · cases h
      split at h'
      · cases h'
      obtain rfl := Option.some.inj h
      obtain rfl := Option.some.inj h'
      exact ⟨rfl, .inl (by decide)⟩
    · rw [if_neg h6] at h'; simp at h'
  rcases u8_01 hx with rfl | rfl
  · exact H v v' h h'
  · exact (H v' v h' h).symm

/-- What is decoded behind a state. -/
def decR : UInt8 → List UInt8 → List UInt8
  | _, [] => []
  | p, s :: ss => (if s = p then 1 else 0) :: decR s ss
theorem decR_len (p : UInt8) (ss : List UInt8) : (decR p ss).length = ss.length := by
  induction ss generalizing p with
  | nil => rfl
  | cons s ss ih => simp [decR, ih]
theorem decR_get (ss : List UInt8) : ∀ p k, k < ss.length → (decR p ss).getD k 0 = if ss.getD k 0 = (if k = 0 then p else ss.getD (k - 1) 0) then 1 else 0 := by
  induction ss with
  | nil => intro p k h; simp at h
  | cons s ss ih =>
    intro p k h
    cases k with
    | zero => simp [decR, List.getD]
    | succ k =>
      have := ih s k (by simpa using h)
      show (decR s ss).getD k 0 = _
      rw [this]
      cases k with
      | zero => simp [List.getD]
      | succ k => simp [List.getD]
theorem decL_decR (ss : List UInt8) : decL ss = decR 0 ss := by
  refine list_ext_getD _ _ (by rw [decL_len, decR_len]) fun k hk => ?_
  rw [decL_len] at hk
  rw [decL_get _ hk, decR_get _ _ _ hk]
  rfl
theorem decR_split (A : List UInt8) (hv : validL A = true) : ∀ p : UInt8, p.toNat ≤ 1 → ∃ q : UInt8, q.toNat ≤ 1 ∧ ∀ B, decR p (A ++ B) = decR p A ++ decR q B := by
  induction A with
  | nil => intro p hp; exact ⟨p, hp, fun B => rfl⟩
  | cons a A ih =>
    have h1 : a.toNat ≤ 1 ∧ validL A = true := by simpa [validL] using hv
    intro p _
    obtain ⟨q, hq, h⟩ := ih h1.2 a h1.1
    exact ⟨q, hq, fun B => by simp [decR, h]⟩

theorem other {s t : UInt8} (hs : s.toNat ≤ 1) (ht : t.toNat ≤ 1) (h : t ≠ s) (q : UInt8) (hq : q.toNat ≤ 1) : (if t = q then (1 : UInt8) else 0) = 1 - (if s = q then 1 else 0) ∧ (if q = t then (1 : UInt8) else 0) = 1 - (if q = s then 1 else 0) := by
  rcases u8_01 hs with rfl | rfl <;> rcases u8_01 ht with rfl | rfl <;> rcases u8_01 hq with rfl | rfl <;> first | exact absurd rfl h | decide
theorem near_line {l : List UInt8} (hv : validL l = true) {i : Nat} (hi : i < l.length) {t : UInt8} (ht : t.toNat ≤ 1) (hne : t ≠ l.getD i 0) {U U' : List UInt8} (h : unstuffL (decL l) = some U) (h' : unstuffL (decL (l.set i t)) = some U') (hl : U.length % 8 = U'.length % 8) : ∃ a v v', U = a ++ v ∧ U' = a ++ v' ∧ Near v v' := by
  have hs : (l.getD i 0).toNat ≤ 1 := validL_get hv hi
  rw [unF_unstuff _ (validL_decL _), decL_decR] at h h'
  have e : l = l.take i ++ l.getD i 0 :: l.drop (i + 1) := by
    have e1 : l.getD i 0 = l[i] := by simp [List.getD, hi]
    rw [e1, ← List.drop_eq_getElem_cons hi, List.take_append_drop]
  have e' : l.set i t = l.take i ++ t :: l.drop (i + 1) := List.set_eq_take_append_cons_drop.trans (if_pos hi)
  have hA : validL (l.take i) = true := by
    unfold validL at hv ⊢
    rw [List.all_eq_true] at hv ⊢
    exact fun x hx => hv x (List.mem_of_mem_take hx)
  have hB : validL (l.drop (i + 1)) = true := validL_drop _ _ hv
  rw [e'] at h'
  rw [e] at h
  generalize l.getD i 0 = s at *
  generalize l.take i = A at *
  generalize l.drop (i + 1) = B at *
  obtain ⟨q, hq, hsp⟩ := decR_split A hA 0 (by decide)
  rw [hsp] at h h'
  have ho := other hs ht hne
  cases B with
  | nil =>
    obtain ⟨m, a, v, v', hm, rfl, rfl, e1, e2⟩ := unF_split _ _ _ 0 (by omega) _ _ h h'
    refine ⟨a, v, v', rfl, rfl, ?_⟩
    simp only [decR] at e1 e2
    rw [(ho q hq).1] at e2
    exact near_one _ (by split <;> decide) _ _ e1 e2
  | cons r B =>
    have h1 : r.toNat ≤ 1 ∧ validL B = true := by simpa [validL] using hB
    obtain ⟨m, a, v, v', hm, rfl, rfl, e1, e2⟩ := unF_split _ _ _ 0 (by omega) _ _ h h'
    refine ⟨a, v, v', rfl, rfl, ?_⟩
    simp only [decR] at e1 e2
    rw [(ho q hq).1, (ho r h1.1).2] at e2
    refine near_two hm _ _ _ (by split <;> decide) (by split <;> decide) ?_ _ _ e1 e2 (by simp only [List.length_append] at hl; omega)
    have := validL_decL (r :: B)
    have hd : ∀ (ss : List UInt8) p, validL (decR p ss) = true := by
      intro ss
      induction ss with
      | nil => intro p; rfl
      | cons s ss ih =>
        intro p
        have := ih s
        unfold validL at this ⊢
        simp only [decR, List.all_cons, Bool.and_eq_true, decide_eq_true_eq]
        exact ⟨by split <;> decide, this⟩
    exact hd _ _

/-- Two packets' bytes whose states differ in one place. -/
theorem one_state {ys zs : List UInt8} {i : Nat} {t : UInt8} (hi : i < (sendL ys).length) (hne : t ≠ (sendL ys).getD i 0) (h : sendL zs = (sendL ys).set i t) : zs.length = ys.length ∧ ∃ j w, (w = 1 ∨ w = 3 ∨ w = 65) ∧ leN ys ^^^ leN zs = 2 ^ j * w := by
  have hv := fun xs : List UInt8 => validL_stuffL _ (validL_append syncL (bitsL xs) (by decide) (validL_bitsL xs))
  have hen := fun xs : List UInt8 => validL_encL (stuffL (syncL ++ bitsL xs))
  have hu := fun xs : List UInt8 => (congrArg unstuffL (decL_encL _ (hv xs))).trans (unstuff_stuff (syncL ++ bitsL xs))
  have h1 := hu ys
  have h2 := hu zs
  have v1 := hen ys
  have v2 := hen zs
  unfold sendL at h hi hne
  generalize encL (stuffL (syncL ++ bitsL ys)) = l at h h1 v1 hi hne
  generalize encL (stuffL (syncL ++ bitsL zs)) = l' at h h2 v2
  have hlen := congrArg List.length h
  simp only [List.length_append, List.length_set] at hlen
  have hll : l'.length = l.length := by omega
  by_cases hc : i < l.length
  · rw [List.set_append_left _ _ hc] at h
    have e' : l' = l.set i t := (List.append_inj h (by rw [List.length_set]; exact hll)).1
    have e0 : (l ++ endL).getD i 0 = l.getD i 0 := by simp [List.getD, List.getElem?_append_left hc]
    rw [e0] at hne
    subst e'
    have ht : t.toNat ≤ 1 := by
      have := validL_get v2 (k := i) (by rw [List.length_set]; exact hc)
      simpa [List.getD, hc] using this
    obtain ⟨a, v, v', ea, ea', hN⟩ := near_line v1 hc ht hne h1 h2 (by simp only [List.length_append, bitsL_len]; omega)
    have l1 := congrArg List.length ea
    have l2 := congrArg List.length ea'
    simp only [List.length_append, bitsL_len] at l1 l2
    have n1 := congrArg numB ea
    have n2 := congrArg numB ea'
    rw [numB_append, numB_append, numB_bits] at n1 n2
    have hx : (numB syncL + 2 ^ syncL.length * leN ys) ^^^ (numB syncL + 2 ^ syncL.length * leN zs) = 2 ^ a.length * (numB v ^^^ numB v') := by
      rw [n1, n2]
      refine xor_front _ _ (numB_lt a ?_)
      have hva := validL_append syncL (bitsL ys) (by decide) (validL_bitsL ys)
      rw [ea] at hva
      unfold validL at hva ⊢
      rw [List.all_append, Bool.and_eq_true] at hva
      exact hva.1
    rw [xor_front _ _ (by decide)] at hx
    have hw := hN.2
    have hlv := hN.1
    generalize numB v ^^^ numB v' = w at hx hw
    refine ⟨by omega, ?_⟩
    have h8 : 8 ≤ a.length := by
      rcases Nat.lt_or_ge a.length 8 with hlt | hge
      · exfalso
        have : syncL.length = 8 := rfl
        rw [this] at hx
        rcases (by omega : a.length = 0 ∨ a.length = 1 ∨ a.length = 2 ∨ a.length = 3 ∨ a.length = 4 ∨ a.length = 5 ∨ a.length = 6 ∨ a.length = 7) with h | h | h | h | h | h | h | h <;> rw [h] at hx <;> omega
      · exact hge
    refine ⟨a.length - 8, w, hw, ?_⟩
    have e2 : 2 ^ a.length * w = 2 ^ 8 * (2 ^ (a.length - 8) * w) := by
      rw [← Nat.mul_assoc, ← Nat.pow_add, show 8 + (a.length - 8) = a.length from by omega]
    rw [e2] at hx
    exact Nat.eq_of_mul_eq_mul_left (by decide) hx
  · exfalso
    rw [List.set_append_right _ _ (by omega)] at h
    have e' := (List.append_inj h hll).2
    have e0 : (l ++ endL).getD i 0 = endL.getD (i - l.length) 0 := by simp [List.getD, List.getElem?_append_right (show l.length ≤ i by omega)]
    have hi3 : i - l.length < endL.length := by rw [List.length_append] at hi; omega
    have e3 : (endL.set (i - l.length) t).getD (i - l.length) 0 = t := by simp [List.getD, hi3]
    rw [← e', ← e0] at e3
    exact hne e3.symm

end Go.Proofs.YtjecjiikgejlaaaGreatDoor.Lv

