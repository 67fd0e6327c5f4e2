/-
  Helper text: contracts of the reference's Low, Number, Short, Long, All; no statement is proved here.
-/
import Derived.Test.YtfblpakoibadoaaGreatDoorCkRefP
import Derived.Test.YtfblpakoibadoaaGreatDoorCkCheck
import Derived.Test.YtfblpakoibadoaaGreatDoorReg
namespace Go.Proofs.YtfblpakoibadoaaGreatDoor.Ck
open Go Go.RowKit

theorem low_val (v k : Nat) : Value.int .u8 (bits .and .u8 ((v : Int) / 2 ^ k % 256) 1) = bv (UInt8.ofNat (v / 2 ^ k % 2)) := by
  have : v / 2 ^ k % 2 < 2 := Nat.mod_lt _ (by omega)
  rw [low_bit8]
  show Value.int .u8 _ = Value.int .u8 _
  rw [bit_ofNat (by omega)]
theorem low_val2 (v k : Nat) : Value.int .u8 ((v : Int) / 2 ^ k % 2) = bv (UInt8.ofNat (v / 2 ^ k % 2)) := by
  have : v / 2 ^ k % 2 < 2 := Nat.mod_lt _ (by omega)
  show Value.int .u8 _ = Value.int .u8 _
  rw [bit_ofNat (by omega)]
  simp only [Int.natCast_emod, Int.natCast_ediv, Int.natCast_pow]; rfl

set_option maxHeartbeats 1600000 in
set_option maxRecDepth 100000 in
theorem low_any (w : World) (v n : Nat) (hn : n ≤ 32) :
    Calls Tryz.prog 69 #[.int .u64 (v : Int), .int .i64 (n : Int)] w (ResO w 5 (lowL v n)) := by
  go_enter Tryz.func69, Tryz.ntmps69
  go_wp2
  go_loopw [5, 6] (fun o i wr => ∃ k : Nat, k ≤ n ∧ i = .int .i64 k ∧ wr.ownsRow w.heap.size 5 1 o (lowL v k).length ((lowL v k).map bv) ∧ Below w.heap.size w wr) (fun _ i _ => n - (intOf i).toNat)
  case atStart => exact ⟨0, Nat.zero_le _, rfl, own_nil _ _ _, Below.refl _ _⟩
  case round =>
    obtain ⟨k, hk, rfl, hown, hb⟩ := hrel
    by_cases hlt : k < n
    · have hys : (lowL v k).length ≤ 32 := by rw [lowL_len]; omega
      have hnext := lowL_succ v k
      generalize lowL v k = ys at hown hys hnext
      have Hv := Lib.hid (low_val v k)
      have Hv2 := Lib.hid (low_val2 v k)
      have Hn := Lib.hid hnext
      clear hnext
      generalize UInt8.ofNat (v / 2 ^ k % 2) = y at Hv Hv2 Hn
      go_wp2_with (at_builtin; refine wpl_append1 Tryz.underlying27 Tryz.info5 rfl (.tmp 12) (.tmp 19) rfl w.heap.size _ ys rfl hown y _ (by first | exact Hv.out | exact Hv2.out) rfl (by omega) hb.size ?_; intro v' w1 hown2 hb2)
      go_roundw
      case rel => exact ⟨k + 1, by omega, by go_num, by rw [Hn.out]; exact hown2, hb.trans hb2⟩
      case measure => simp [intOf]; omega
    · have hk9 : k = n := by omega
      subst hk9
      go_wp2
      go_ret
      exact ⟨_, rfl, hown, hb⟩

set_option maxHeartbeats 1600000 in
set_option maxRecDepth 100000 in
theorem number_any (w : World) (A : Option Addr) (c B : Nat) (xs : List UInt8) (h : Rd w B A c xs) (hb : ∀ x ∈ xs, x.toNat ≤ 1) (hl : xs.length ≤ 32) :
    Calls Tryz.prog 39 #[.slice A xs.length c] w fun e w' => e = .returned (.int .u64 (numberL xs : Int)) ∧ w' = w := by
  go_enter Tryz.func39, Tryz.ntmps39
  go_wp2
  go_loopw [3, 4] (fun n i wr => ∃ k : Nat, k ≤ xs.length ∧ i = .int .i64 ((k : Int) - 1) ∧ n = .int .u64 (numberL (xs.drop k) : Int) ∧ wr = w) (fun _ i _ => (intOf i + 1).toNat)
  case atStart => exact ⟨xs.length, Nat.le_refl _, rfl, by rw [List.drop_length]; rfl, rfl⟩
  case round =>
    obtain ⟨k, hk, rfl, rfl, rfl⟩ := hrel
    by_cases hlt : 0 < k
    · obtain ⟨j, rfl⟩ : ∃ j, k = j + 1 := ⟨k - 1, by omega⟩
      have hj1 : ((j + 1 : Nat) : Int) - 1 = (j : Int) := by omega
      obtain ⟨b, off, rfl, hbB, hcell0⟩ := h.at_ (k := j) (by omega)
      have hcell : wr.cell? ⟨b, off + j, none⟩ = some (.int .u8 ((xs.getD j 0).toNat : Int)) := hcell0
      clear hcell0
      have hdr : xs.drop j = xs.getD j 0 :: xs.drop (j + 1) := by
        rw [List.drop_eq_getElem_cons (by omega : j < xs.length)]
        simp [List.getD, List.getElem?_eq_getElem (by omega : j < xs.length)]
      have hnum : numberL (xs.drop j) = (xs.getD j 0).toNat + 2 * numberL (xs.drop (j + 1)) := by rw [hdr]; rfl
      have hx := Bit.of_mem hb j
      have hN := numberL_lt (xs := xs.drop (j + 1)) (fun x hx => hb x (List.mem_of_mem_drop hx))
      have hN2 : numberL (xs.drop (j + 1)) < 2 ^ 32 := Nat.lt_of_lt_of_le hN (Nat.pow_le_pow_right (by omega) (by rw [List.length_drop]; omega))
      have Hnum := Lib.hid hnum
      clear hnum hdr hN
      generalize (xs.getD j 0).toNat = x at hcell hx Hnum
      generalize numberL (xs.drop (j + 1)) = N at hN2 Hnum
      rw [hj1]
      clear hj1
      go_wp2
      go_roundw
      case rel => exact ⟨j, by omega, rfl, by rw [Hnum.out]; push_cast; rw [Int.add_comm], trivial⟩
      case measure => simp [intOf]
    · have hk0 : k = 0 := by omega
      subst hk0
      go_wp2
      go_ret
      exact ⟨rfl, rfl⟩

set_option maxHeartbeats 800000 in
set_option maxRecDepth 100000 in
theorem short_any (w : World) : Calls Tryz.prog 38 #[] w (ResO w 5 shortL) := by
  go_enter Tryz.func38, Tryz.ntmps38
  go_wp2
  go_ret
  exact ⟨_, rfl, own_built w 5 shortL (by decide), (Below.refl _ _).alloc (Nat.le_refl _) _⟩
set_option maxHeartbeats 800000 in
set_option maxRecDepth 100000 in
theorem long_any (w : World) : Calls Tryz.prog 68 #[] w (ResO w 5 longL) := by
  go_enter Tryz.func68, Tryz.ntmps68
  go_wp2
  go_ret
  exact ⟨_, rfl, own_built w 5 longL (by decide), (Below.refl _ _).alloc (Nat.le_refl _) _⟩

set_option maxHeartbeats 1600000 in
set_option maxRecDepth 100000 in
theorem all_any (w : World) (A : Option Addr) (c : Nat) (xs : List UInt8) (h : Rd w w.heap.size A c xs) (hl : xs.length ≤ 100000) :
    Calls Tryz.prog 44 #[.slice A xs.length c] w (ResO w 5 (allL xs)) := by
  go_enter Tryz.func44, Tryz.ntmps44
  go_wp2
  go_loopw [3, 4] (fun o i wr => ∃ k : Nat, k ≤ xs.length ∧ i = .int .i64 k ∧ wr.ownsRow w.heap.size 5 1 o (allL (xs.take k)).length ((allL (xs.take k)).map bv) ∧ Below w.heap.size w wr) (fun _ i _ => xs.length - (intOf i).toNat)
  case atStart => exact ⟨0, Nat.zero_le _, rfl, own_nil _ _ _, Below.refl _ _⟩
  case round =>
    obtain ⟨k, hk, rfl, hown, hb⟩ := hrel
    by_cases hlt : k < xs.length
    · obtain ⟨b, off, rfl, hbB, hcell0⟩ := (h.below hb).at_ (k := k) hlt
      have hcell : wr.cell? ⟨b, off + k, none⟩ = some (.int .u8 ((xs.getD k 0).toNat : Int)) := hcell0
      clear hcell0
      have hys : (allL (xs.take k)).length ≤ 800000 := by rw [allL_len, List.length_take]; omega
      have hnext := allL_snoc (xs.take k) (xs.getD k 0)
      rw [← take_snoc xs hlt] at hnext
      have HLow := Lib.hid (low_any wr (xs.getD k 0).toNat 8 (by omega))
      have h8 : (lowL (xs.getD k 0).toNat 8).length = 8 := lowL_len _ _
      generalize allL (xs.take k) = ys at hown hys hnext
      generalize lowL (xs.getD k 0).toNat 8 = ls at HLow hnext h8
      have hx8 : (xs.getD k 0).toNat < 256 := (xs.getD k 0).toNat_lt
      generalize (xs.getD k 0).toNat = x at hcell HLow hx8
      have Hn := Lib.hid hnext
      have H8 := Lib.hid h8
      clear hnext h8
      go_wp2_with fail
      refine HLow.out.mono ?_
      rintro e w1 ⟨v1, rfl, own1, hb1⟩
      obtain ⟨A1, c1, rfl, r1⟩ := Rd.of_own own1
      have hown1 := own_below hown hb1
      have hb2 := hb.trans (hb1.mono hb.size)
      go_wp2_with (at_builtin; refine wpl_appendN Tryz.underlying27 Tryz.info5 rfl (.tmp 11) (.tmp 17) rfl w.heap.size _ ys rfl hown1 w1.heap.size c1 A1 ls r1 rfl (by have := H8.out; omega) hb2.size ?_; intro v' w2 hown2 hb3)
      go_roundw
      case rel => exact ⟨k + 1, by omega, by go_num, by rw [Hn.out]; exact hown2, hb2.trans hb3⟩
      case measure => simp [intOf]; omega
    · have hk9 : k = xs.length := by omega
      subst hk9
      rw [List.take_length] at hown
      go_wp2
      go_ret
      exact ⟨_, rfl, hown, hb⟩

end Go.Proofs.YtfblpakoibadoaaGreatDoor.Ck
