/-
  Helper text: contracts of Decode, the two conversions between states and numbers, and the stuffing; no statement is proved here.
-/
import Derived.Test.YtjecjiikgejlaaaGreatDoorLvOne
namespace Go.Proofs.YtjecjiikgejlaaaGreatDoor.Lv
open Go Go.RowKit

set_option maxHeartbeats 1600000 in
set_option maxRecDepth 100000 in
theorem decode_any (w : World) (A : Option Addr) (c : Nat) (xs : List UInt8) (h : Rd w w.heap.size A c xs) (hl : xs.length ≤ 100000) :
    Calls Tryz.prog 80 #[.slice A xs.length c] w (ResE w (ifV (validL xs) (decL xs)) (errV (validL xs) 4)) := by
  have hmk := fun W : World => make_full (xs.length : Int) W (by omega) (by omega)
  rw [Int.toNat_natCast] at hmk
  go_enter Tryz.func80, Tryz.ntmps80
  go_wp2
  clear hmk
  go_loopw [5, 12] (fun s i wr => ∃ k : Nat, k ≤ xs.length ∧ i = .int .i64 k ∧ s = bv (before xs k) ∧ validL (xs.take k) = true ∧ Row wr w.heap.size 5 (fillL xs.length k (decF xs)) ∧ Below w.heap.size w wr) (fun _ i _ => xs.length - (intOf i).toNat)
  case atStart => exact ⟨0, Nat.zero_le _, rfl, rfl, rfl, by rw [fillL_zero]; exact Row.made w _ _, (Below.refl _ _).alloc (Nat.le_refl _) _⟩
  case round =>
    obtain ⟨k, hk, rfl, rfl, hv, hrow, hb⟩ := hrel
    have Hv := Lib.hid hv
    clear hv
    by_cases hlt : k < xs.length
    · obtain ⟨b, off, rfl, hbB, hcell⟩ := (h.below hb).at_ hlt
      have hs := validL_snoc xs hlt
      have hbad := fun hx => validL_bad xs hlt hx
      have hc2 := hrow.cell (i := k) (by rw [fillL_len]; exact hlt)
      have hf2 := hrow.frozen k
      have hset := hrow.set k (y := 1) rfl
      have hsame := fillL_set xs.length k (decF xs)
      have hF : decF xs k = if xs.getD k 0 = before xs k then 1 else 0 := rfl
      have hold := fillL_at xs.length k (decF xs)
      have hsame0 := fillL_set0 xs.length k (decF xs)
      have hbk : before xs (k + 1) = xs.getD k 0 := rfl
      have hb2 := hb.setCell (p := ⟨w.heap.size, k, none⟩) (Nat.le_refl _) (bv 1)
      rw [hold] at hc2
      have hcs : ∀ v, (wr.setCell ⟨w.heap.size, k, none⟩ v).cell? ⟨b, off + k, none⟩ = some (bv (xs.getD k 0)) := fun v =>
        (World.cell?_setCell_other _ _ _ _ (fun e => by have := congrArg Addr.block e; simp at this; omega)).trans hcell
      generalize xs.getD k 0 = x at hcell hs hbad hF hbk hcs
      generalize hq : before xs k = q at hF
      have Hs := Lib.hid hs
      have Hb := Lib.hid hbad
      have Hbk := Lib.hid hbk
      clear hs hbad hbk hold hq
      by_cases hx : x.toNat ≤ 1
      · have hvn : validL (xs.take (k + 1)) = true := by rw [Hs.out, Hv.out]; simpa using hx
        have Hvn := Lib.hid hvn
        clear hvn
        by_cases e : x = q
        · subst e
          rw [if_pos rfl] at hF
          rw [hF] at hsame
          rw [hsame] at hset
          have tq : ((x.toNat : Int) == (x.toNat : Int)) = true := by simp
          clear hF hsame hsame0
          rcases (by omega : x.toNat = 0 ∨ x.toNat = 1) with h0 | h0
          · have t0 : ((x.toNat : Int) != 0) = false := by rw [h0]; rfl
            clear h0 hx
            go_wp2
            go_roundw
            case rel => exact ⟨k + 1, by omega, by go_num, by rw [Hbk.out], Hvn.out, hset, hb2⟩
            case measure => simp [intOf]; omega
          · have t0 : ((x.toNat : Int) != 0) = true := by rw [h0]; rfl
            have t1 : ((x.toNat : Int) != 1) = false := by rw [h0]; rfl
            clear h0 hx
            go_wp2
            go_roundw
            case rel => exact ⟨k + 1, by omega, by go_num, by rw [Hbk.out], Hvn.out, hset, hb2⟩
            case measure => simp [intOf]; omega
        · have tq : ((x.toNat : Int) == (q.toNat : Int)) = false := by
            rw [beq_eq_false_iff_ne]
            intro hh
            exact e (UInt8.toNat_inj.1 (by omega))
          rw [if_neg e] at hF
          rw [hF, hsame0] at hsame
          rw [hsame] at hrow
          clear hF hsame hsame0 hset e
          rcases (by omega : x.toNat = 0 ∨ x.toNat = 1) with h0 | h0
          · have t0 : ((x.toNat : Int) != 0) = false := by rw [h0]; rfl
            clear h0 hx
            go_wp2
            go_roundw
            case rel => exact ⟨k + 1, by omega, by go_num, by rw [Hbk.out], Hvn.out, hrow, hb⟩
            case measure => simp [intOf]; omega
          · have t0 : ((x.toNat : Int) != 0) = true := by rw [h0]; rfl
            have t1 : ((x.toNat : Int) != 1) = false := by rw [h0]; rfl
            clear h0 hx
            go_wp2
            go_roundw
            case rel => exact ⟨k + 1, by omega, by go_num, by rw [Hbk.out], Hvn.out, hrow, hb⟩
            case measure => simp [intOf]; omega
      · have t0 : ((x.toNat : Int) != 0) = true := by simp; omega
        have t1 : ((x.toNat : Int) != 1) = true := by simp; omega
        clear hF hsame hsame0 hset
        go_wp2
        go_ret2
        rw [Hb.out hx, ifV_false, errV_false]
        exact ⟨_, _, rfl, Rd.nil _ _, hb⟩
    · have hk9 : k = xs.length := by omega
      subst hk9
      have hrd := hrow.rd (by rw [fillL_len]; omega)
      rw [fillL_full, List.length_map, List.length_range] at hrd
      have hlen := decL_len xs
      have Hr : Hid (Rd wr wr.heap.size (some ⟨w.heap.size, 0, none⟩) xs.length (decL xs)) := Lib.hid hrd
      have Hl := Lib.hid hlen
      clear hrd hlen
      go_wp2
      go_ret2
      have hv := Hv.out
      rw [List.take_length] at hv
      rw [hv, ifV_true, errV_true]
      refine ⟨_, _, ?_, Hr.out, hb⟩
      rw [Hl.out]
      rfl

set_option maxHeartbeats 800000 in
set_option maxRecDepth 100000 in
theorem states_any (w : World) (A : Option Addr) (c : Nat) (xs : List UInt8) (h : Rd w w.heap.size A c xs) (hl : xs.length ≤ 100000) :
    Calls Tryz.prog 20 #[.slice A xs.length c] w (Res1 w xs) := by
  go_enter Tryz.func20, Tryz.ntmps20
  go_wp2
  go_loopw [3, 4] (fun o i wr => ∃ k : Nat, k ≤ xs.length ∧ i = .int .i64 k ∧ wr.ownsRow w.heap.size 5 1 o (xs.take k).length ((xs.take k).map bv) ∧ Below w.heap.size w wr) (fun _ i _ => xs.length - (intOf i).toNat)
  case atStart => exact ⟨0, Nat.zero_le _, rfl, World.ownsRow_nil _ _ _ _, Below.refl _ _⟩
  case round =>
    obtain ⟨k, hk, rfl, hown, hb⟩ := hrel
    by_cases hlt : k < xs.length
    · obtain ⟨b, off, rfl, hbB, hcell⟩ := (h.below hb).at_ hlt
      have hn := take_snoc xs hlt
      have hlz : (xs.take k).length ≤ 100000 := by rw [List.length_take]; omega
      generalize xs.getD k 0 = x at hcell hn
      generalize xs.take k = zs at hown hn hlz
      have Hn := Lib.hid hn
      clear hn
      go_wp2_with (at_builtin; refine wpl_append1 Tryz.underlying27 Tryz.info5 rfl (.tmp 11) (.tmp 16) rfl w.heap.size u3 zs rfl hown x _ rfl rfl (by omega) hb.size ?_; intro v' w1 hown2 hb2)
      go_roundw
      case rel => exact ⟨k + 1, by omega, by go_num, by rw [Hn.out]; exact hown2, hb.trans hb2⟩
      case measure => simp [intOf]; omega
    · have hk9 : k = xs.length := by omega
      subst hk9
      rw [List.take_length] at hown
      go_wp2
      obtain ⟨A', c', rfl, hr⟩ := Rd.of_own hown
      go_ret
      exact ⟨A', c', rfl, hr, hb⟩

set_option maxHeartbeats 800000 in
set_option maxRecDepth 100000 in
theorem line_any (w : World) (A : Option Addr) (c : Nat) (xs : List UInt8) (h : Rd w w.heap.size A c xs) (hl : xs.length ≤ 100000) :
    Calls Tryz.prog 22 #[.slice A xs.length c] w (Res1 w xs) := by
  go_enter Tryz.func22, Tryz.ntmps22
  go_wp2
  go_loopw [3, 4] (fun o i wr => ∃ k : Nat, k ≤ xs.length ∧ i = .int .i64 k ∧ wr.ownsRow w.heap.size 58 1 o (xs.take k).length ((xs.take k).map bv) ∧ Below w.heap.size w wr) (fun _ i _ => xs.length - (intOf i).toNat)
  case atStart => exact ⟨0, Nat.zero_le _, rfl, World.ownsRow_nil _ _ _ _, Below.refl _ _⟩
  case round =>
    obtain ⟨k, hk, rfl, hown, hb⟩ := hrel
    by_cases hlt : k < xs.length
    · obtain ⟨b, off, rfl, hbB, hcell⟩ := (h.below hb).at_ hlt
      have hn := take_snoc xs hlt
      have hlz : (xs.take k).length ≤ 100000 := by rw [List.length_take]; omega
      generalize xs.getD k 0 = x at hcell hn
      generalize xs.take k = zs at hown hn hlz
      have Hn := Lib.hid hn
      clear hn
      go_wp2_with (at_builtin; refine wpl_append1 Tryz.underlying48 Tryz.info58 rfl (.tmp 11) (.tmp 16) rfl w.heap.size u3 zs rfl hown x _ rfl rfl (by omega) hb.size ?_; intro v' w1 hown2 hb2)
      go_roundw
      case rel => exact ⟨k + 1, by omega, by go_num, by rw [Hn.out]; exact hown2, hb.trans hb2⟩
      case measure => simp [intOf]; omega
    · have hk9 : k = xs.length := by omega
      subst hk9
      rw [List.take_length] at hown
      go_wp2
      obtain ⟨A', c', rfl, hr⟩ := Rd.of_own hown
      go_ret
      exact ⟨A', c', rfl, hr, hb⟩

end Go.Proofs.YtjecjiikgejlaaaGreatDoor.Lv
