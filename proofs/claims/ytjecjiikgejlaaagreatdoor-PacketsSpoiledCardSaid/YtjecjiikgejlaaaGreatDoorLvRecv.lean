/-
  Helper text: contracts of Send and Receive; no statement is proved here.
-/
import Derived.Test.YtjecjiikgejlaaaGreatDoorLvUn
namespace Go.Proofs.YtjecjiikgejlaaaGreatDoor.Lv
open Go Go.RowKit

/-- Do the last three states end a packet? -/
def hasEndL (xs : List UInt8) : Bool := decide (3 ≤ xs.length) && decide (xs.drop (xs.length - 3) = endL)
def hasSyncL (xs : List UInt8) : Bool := decide (xs.take 8 = syncL)

theorem drop_get (xs : List UInt8) (d k : Nat) (h : d + k < xs.length) : (xs.drop d).getD k 0 = xs.getD (d + k) 0 := by
  simp [List.getD, List.getElem?_drop]
theorem list_ext_getD (xs ys : List UInt8) (hl : xs.length = ys.length) (h : ∀ k, k < xs.length → xs.getD k 0 = ys.getD k 0) : xs = ys := by
  apply List.ext_getElem hl
  intro k h1 h2
  have := h k h1
  simpa [List.getD, h1, h2] using this

theorem hasEnd_short (w : World) (A : Option Addr) (c : Nat) (xs : List UInt8) (hl : xs.length < 3) :
    Calls Tryz.prog 79 #[.slice A xs.length c] w fun e w' => e = .returned (.bool false) ∧ w = w' := by
  have h3 : (xs.length : Int) - 3 < 0 := by omega
  go_enter Tryz.func79, Tryz.ntmps79
  go_wp2
  go_ret
  exact ⟨rfl, rfl⟩

set_option maxHeartbeats 800000 in
set_option maxRecDepth 100000 in
theorem hasEnd_long (w : World) (hL : Laid w) (A : Option Addr) (c : Nat) (xs : List UInt8) (h : Rd w w.heap.size A c xs) (hl : xs.length ≤ 100000) (h3 : 3 ≤ xs.length) :
    Calls Tryz.prog 79 #[.slice A xs.length c] w fun e w' => e = .returned (.bool (hasEndL xs)) ∧ w = w' := by
  have s0 : w.cell? ⟨4, 0, none⟩ = some (.int .u8 2) := hL.ends 0 (by omega)
  have s1 : w.cell? ⟨4, 1, none⟩ = some (.int .u8 2) := hL.ends 1 (by omega)
  have s2 : w.cell? ⟨4, 2, none⟩ = some (.int .u8 0) := hL.ends 2 (by omega)
  go_enter Tryz.func79, Tryz.ntmps79
  go_wp2
  clear s0 s1 s2
  go_loop [12] (fun i => ∃ k : Nat, k ≤ 3 ∧ i = .int .i64 k ∧ ∀ j, j < k → xs.getD (xs.length - 3 + j) 0 = endL.getD j 0) (fun i => 3 - (intOf i).toNat)
  case atStart => exact ⟨0, Nat.zero_le _, rfl, fun j hj => absurd hj (by omega)⟩
  case round =>
    obtain ⟨k, hk, rfl, heq⟩ := hrel
    have Heq := Lib.hid heq
    clear heq
    by_cases hlt : k < 3
    · have hj : xs.length - 3 + k < xs.length := by omega
      obtain ⟨b, off, rfl, hbB, hcell⟩ := h.at_ hj
      rw [show off + (xs.length - 3 + k) = off + (xs.length - 3 + k) from rfl] at hcell
      have hix := index_end k hlt
      by_cases e : xs.getD (xs.length - 3 + k) 0 = endL.getD k 0
      · have He := Lib.hid e
        rw [e] at hcell
        generalize endL.getD k 0 = x at hcell hix
        have t0 : ((x.toNat : Int) != (x.toNat : Int)) = false := by simp
        clear e
        go_wp2
        go_round
        case rel => exact ⟨k + 1, by omega, by go_num, fun j hj => by
          rcases Nat.lt_or_ge j k with h1 | h1
          · exact Heq.out j h1
          · have hjk : j = k := by omega
            subst hjk
            exact He.out⟩
        case measure => simp [intOf]; omega
      · have hbad : hasEndL xs = false := by
          unfold hasEndL
          rw [Bool.and_eq_false_iff]
          right
          rw [decide_eq_false_iff_not]
          intro hh
          exact e (by rw [← drop_get xs _ k (by omega), hh])
        have Hb := Lib.hid hbad
        have t0 : (((xs.getD (xs.length - 3 + k) 0).toNat : Int) != ((endL.getD k 0).toNat : Int)) = true := by
          rw [bne_iff_ne]
          exact fun hh => e (UInt8.toNat_inj.1 (by omega))
        clear hbad e
        generalize endL.getD k 0 = x at hix t0
        generalize xs.getD (xs.length - 3 + k) 0 = y at hcell t0
        go_wp2
        go_ret
        exact ⟨by rw [Hb.out]; rfl, rfl⟩
    · have hk9 : k = 3 := by omega
      subst hk9
      have hgood : hasEndL xs = true := by
        unfold hasEndL
        rw [Bool.and_eq_true_iff]
        refine ⟨by simpa using h3, ?_⟩
        rw [decide_eq_true_iff]
        refine list_ext_getD _ _ (by simp [endL]; omega) fun j hj => ?_
        rw [List.length_drop] at hj
        rw [drop_get xs _ j (by omega)]
        exact Heq.out j (by omega)
      have Hg := Lib.hid hgood
      clear hgood
      go_wp2
      go_ret
      exact ⟨by rw [Hg.out]; rfl, rfl⟩

theorem hasEndL_short (xs : List UInt8) (h : xs.length < 3) : hasEndL xs = false := by
  unfold hasEndL
  rw [Bool.and_eq_false_iff]
  left
  simpa using h

theorem hasEnd_any (w : World) (hL : Laid w) (A : Option Addr) (c : Nat) (xs : List UInt8) (h : Rd w w.heap.size A c xs) (hl : xs.length ≤ 100000) :
    Calls Tryz.prog 79 #[.slice A xs.length c] w fun e w' => e = .returned (.bool (hasEndL xs)) ∧ w = w' := by
  rcases Nat.lt_or_ge xs.length 3 with h3 | h3
  · rw [hasEndL_short xs h3]
    exact hasEnd_short w A c xs h3
  · exact hasEnd_long w hL A c xs h hl h3

theorem hasSync_short (w : World) (A : Option Addr) (c : Nat) (xs : List UInt8) (hl : xs.length < 8) :
    Calls Tryz.prog 82 #[.slice A xs.length c] w fun e w' => e = .returned (.bool false) ∧ w = w' := by
  have h3 : (xs.length : Int) < 8 := by omega
  go_enter Tryz.func82, Tryz.ntmps82
  go_wp2
  go_ret
  exact ⟨rfl, rfl⟩

set_option maxHeartbeats 800000 in
set_option maxRecDepth 100000 in
theorem hasSync_long (w : World) (hL : Laid w) (A : Option Addr) (c : Nat) (xs : List UInt8) (h : Rd w w.heap.size A c xs) (hl : xs.length ≤ 100000) (h8 : 8 ≤ xs.length) :
    Calls Tryz.prog 82 #[.slice A xs.length c] w fun e w' => e = .returned (.bool (hasSyncL xs)) ∧ w = w' := by
  have s0 : w.cell? ⟨3, 0, none⟩ = some (.int .u8 0) := hL.sync 0 (by omega)
  have s1 : w.cell? ⟨3, 1, none⟩ = some (.int .u8 0) := hL.sync 1 (by omega)
  have s2 : w.cell? ⟨3, 2, none⟩ = some (.int .u8 0) := hL.sync 2 (by omega)
  have s3 : w.cell? ⟨3, 3, none⟩ = some (.int .u8 0) := hL.sync 3 (by omega)
  have s4 : w.cell? ⟨3, 4, none⟩ = some (.int .u8 0) := hL.sync 4 (by omega)
  have s5 : w.cell? ⟨3, 5, none⟩ = some (.int .u8 0) := hL.sync 5 (by omega)
  have s6 : w.cell? ⟨3, 6, none⟩ = some (.int .u8 0) := hL.sync 6 (by omega)
  have s7 : w.cell? ⟨3, 7, none⟩ = some (.int .u8 1) := hL.sync 7 (by omega)
  go_enter Tryz.func82, Tryz.ntmps82
  go_wp2
  clear s0 s1 s2 s3 s4 s5 s6 s7
  go_loop [9] (fun i => ∃ k : Nat, k ≤ 8 ∧ i = .int .i64 k ∧ ∀ j, j < k → xs.getD j 0 = syncL.getD j 0) (fun i => 8 - (intOf i).toNat)
  case atStart => exact ⟨0, Nat.zero_le _, rfl, fun j hj => absurd hj (by omega)⟩
  case round =>
    obtain ⟨k, hk, rfl, heq⟩ := hrel
    have Heq := Lib.hid heq
    clear heq
    by_cases hlt : k < 8
    · have hj : k < xs.length := by omega
      obtain ⟨b, off, rfl, hbB, hcell⟩ := h.at_ hj
      have hix := index_sync k hlt
      by_cases e : xs.getD k 0 = syncL.getD k 0
      · have He := Lib.hid e
        rw [e] at hcell
        generalize syncL.getD k 0 = x at hcell hix
        have t0 : ((x.toNat : Int) != (x.toNat : Int)) = false := by simp
        clear e
        go_wp2
        go_round
        case rel => exact ⟨k + 1, by omega, by go_num, fun j hj => by
          rcases Nat.lt_or_ge j k with h1 | h1
          · exact Heq.out j h1
          · have hjk : j = k := by omega
            subst hjk
            exact He.out⟩
        case measure => simp [intOf]; omega
      · have hbad : hasSyncL xs = false := by
          unfold hasSyncL
          rw [decide_eq_false_iff_not]
          intro hh
          refine e ?_
          rw [← hh]
          simp [List.getD, List.getElem?_take, hlt]
        have Hb := Lib.hid hbad
        have t0 : (((xs.getD k 0).toNat : Int) != ((syncL.getD k 0).toNat : Int)) = true := by
          rw [bne_iff_ne]
          exact fun hh => e (UInt8.toNat_inj.1 (by omega))
        clear hbad e
        generalize syncL.getD k 0 = x at hix t0
        generalize xs.getD k 0 = y at hcell t0
        go_wp2
        go_ret
        exact ⟨by rw [Hb.out]; rfl, rfl⟩
    · have hk9 : k = 8 := by omega
      subst hk9
      have hgood : hasSyncL xs = true := by
        unfold hasSyncL
        rw [decide_eq_true_iff]
        refine list_ext_getD _ _ (by simp [syncL]; omega) fun j hj => ?_
        rw [List.length_take] at hj
        have hj8 : j < 8 := by omega
        rw [← Heq.out j hj8]
        simp [List.getD, List.getElem?_take, hj8]
      have Hg := Lib.hid hgood
      clear hgood
      go_wp2
      go_ret
      exact ⟨by rw [Hg.out]; rfl, rfl⟩

theorem hasSyncL_short (xs : List UInt8) (h : xs.length < 8) : hasSyncL xs = false := by
  unfold hasSyncL
  rw [decide_eq_false_iff_not]
  intro hh
  have := congrArg List.length hh
  rw [List.length_take] at this
  simp [syncL] at this
  omega

theorem hasSync_any (w : World) (hL : Laid w) (A : Option Addr) (c : Nat) (xs : List UInt8) (h : Rd w w.heap.size A c xs) (hl : xs.length ≤ 100000) :
    Calls Tryz.prog 82 #[.slice A xs.length c] w fun e w' => e = .returned (.bool (hasSyncL xs)) ∧ w = w' := by
  rcases Nat.lt_or_ge xs.length 8 with h3 | h3
  · rw [hasSyncL_short xs h3]
    exact hasSync_short w A c xs h3
  · exact hasSync_long w hL A c xs h hl h3

/-- The bytes behind the sync, or the error. -/
def contentL (xs : List UInt8) : List UInt8 × Int :=
  if ¬ xs.length % 8 = 0 then ([], 5) else if xs.length = 0 then ([], 1) else if 8216 < xs.length then ([], 3) else (bytesL xs, 0)

set_option maxHeartbeats 800000 in
theorem content_any (w : World) (A : Option Addr) (c : Nat) (xs : List UInt8) (h : Rd w w.heap.size A c xs) (hl : xs.length ≤ 100000) (hv : validL xs = true) :
    Calls Tryz.prog 83 #[.slice A xs.length c] w (ResF w (contentL xs).1 (contentL xs).2) := by
  have hdef : contentL xs = if ¬ xs.length % 8 = 0 then ([], 5) else if xs.length = 0 then ([], 1) else if 8216 < xs.length then ([], 3) else (bytesL xs, 0) := rfl
  generalize contentL xs = r at hdef
  by_cases h8 : xs.length % 8 = 0
  · have t8 : ((xs.length : Int) % 8 != 0) = false := by rw [bne_eq_false_iff_eq]; omega
    rw [if_neg (by omega)] at hdef
    by_cases h0 : xs.length = 0
    · rw [if_pos h0] at hdef
      have t0 : ((xs.length : Int) == 0) = true := by rw [beq_iff_eq]; omega
      clear h8 h0
      subst hdef
      go_enter Tryz.func83, Tryz.ntmps83
      go_wp2
      go_ret2
      exact ⟨_, _, rfl, Rd.nil _ _, Below.refl _ _, none_new⟩
    · rw [if_neg h0] at hdef
      have t0 : ((xs.length : Int) == 0) = false := by rw [beq_eq_false_iff_ne]; omega
      have hp : 0 < xs.length := by omega
      clear h0
      by_cases hm : 8216 < xs.length
      · rw [if_pos hm] at hdef
        have hm2 : (8216 : Int) < (xs.length : Int) := by omega
        clear h8
        subst hdef
        go_enter Tryz.func83, Tryz.ntmps83
        go_wp2
        go_ret2
        exact ⟨_, _, rfl, Rd.nil _ _, Below.refl _ _, none_new⟩
      · rw [if_neg hm] at hdef
        have hm2 : ¬ (8216 : Int) < (xs.length : Int) := by omega
        have hB := bytes_good w A c xs h hl hv h8
        have HB := Lib.hid hB
        clear hB h8 hv
        subst hdef
        go_enter Tryz.func83, Tryz.ntmps83
        go_wp2_with (go_at_call 103; refine HB.out.mono ?_; rintro e w1 ⟨A1, c1, rfl, hr1, hb1, hf1⟩)
        go_ret2
        exact ⟨_, _, rfl, hr1, hb1, hf1⟩
  · have t8 : ((xs.length : Int) % 8 != 0) = true := by rw [bne_iff_ne]; omega
    rw [if_pos h8] at hdef
    clear h8
    subst hdef
    go_enter Tryz.func83, Tryz.ntmps83
    go_wp2
    go_ret2
    exact ⟨_, _, rfl, Rd.nil _ _, Below.refl _ _, none_new⟩

end Go.Proofs.YtjecjiikgejlaaaGreatDoor.Lv
