/-
  Helper text: small plans, and the error of the reference; no statement is proved here.
-/
import Derived.Test.YtochkonjfhhiiaaCons10
namespace Go.Proofs.Ytochkonjfhhiiaa
open Go Go.RowKit

def smallB (ps : List (List UInt8)) : Bool := decide (ps.length ≤ 300) && ps.all fun p => decide (p.length ≤ 100)
theorem smallB_at {ps : List (List UInt8)} {k : Nat} (hk : k < ps.length) (h : 100 < (ps.getD k []).length) : smallB ps = false := by
  cases hs : smallB ps with
  | false => rfl
  | true =>
    simp only [smallB, Bool.and_eq_true, List.all_eq_true, decide_eq_true_eq] at hs
    have := hs.2 (ps.getD k []) (by rw [List.getD_eq_getElem?_getD, List.getElem?_eq_getElem hk]; exact List.getElem_mem hk)
    omega
theorem smallB_all {ps : List (List UInt8)} (h0 : ps.length ≤ 300) (h : ∀ j, j < ps.length → (ps.getD j []).length ≤ 100) : smallB ps = true := by
  simp only [smallB, Bool.and_eq_true, List.all_eq_true, decide_eq_true_eq]
  refine ⟨h0, fun p hp => ?_⟩
  obtain ⟨j, hj, rfl⟩ := List.getElem_of_mem hp
  have := h j hj
  rw [List.getD_eq_getElem?_getD, List.getElem?_eq_getElem hj] at this
  simpa using this

set_option maxHeartbeats 1600000 in
theorem small10_any (w : World) (inn : Bool) (endp : Nat) (max : Int) (A : Option Addr) (c : Nat) (ps : List (List UInt8)) (many : Int) (hr : Rds w w.heap.size A c ps) :
    Calls Try.prog 16 #[planP inn endp max A ps.length c many] w fun e w' => e = .returned (.bool (smallB ps)) ∧ Below w.heap.size w w' := by
  have hb := (Below.refl w.heap.size w).alloc (Nat.le_refl _) (.cells #[.bool inn, .int .u8 endp, .int .i64 max, .slice A ps.length c, .int .i64 many] 42)
  have hbox := heap_alloc_new w (.cells #[.bool inn, .int .u8 endp, .int .i64 max, .slice A ps.length c, .int .i64 many] 42)
  have hr1 := hr.belowTop hb
  have hle := hr.le
  have hcap := hr.cap
  have key : ∀ v : Bool, smallB ps = v → Calls Try.prog 16 #[planP inn endp max A ps.length c many] w (fun e w' => e = .returned (.bool v) ∧ Below w.heap.size w w') → Calls Try.prog 16 #[planP inn endp max A ps.length c many] w (fun e w' => e = .returned (.bool (smallB ps)) ∧ Below w.heap.size w w') := fun v h k => by rw [h]; exact k
  by_cases h300 : 300 < (ps.length : Int)
  · refine key false (by simp [smallB]; omega) ?_
    go_enter Try.func16, Try.ntmps16
    go_wp2
    go_ret
    exact ⟨rfl, hb⟩
  · clear key
    have c3 := block_at hbox (i := 3) rfl
    replace hbox := Lib.hid hbox
    obtain ⟨g, hg⟩ : ∃ g, w.heap.size = g := ⟨_, rfl⟩
    go_enter Try.func16, Try.ntmps16
    go_wp2_with fail
    generalize w.alloc (.cells #[.bool inn, .int .u8 endp, .int .i64 max, .slice A ps.length c, .int .i64 many] 42) = W at *
    rw [hg] at c3
    replace hg := Lib.hid hg
    go_loop [3] (fun v => ∃ k : Nat, v = .int .i64 (k : Int) ∧ k ≤ ps.length ∧ RowKit.Hid (∀ j, j < k → (ps.getD j []).length ≤ 100)) (fun v => ps.length - (intOf v).toNat)
    case atStart => exact ⟨0, rfl, Nat.zero_le _, Lib.hid fun j hj => absurd hj (by omega)⟩
    case round =>
      obtain ⟨k, rfl, hk, hno⟩ := hrel
      by_cases hlt : k < ps.length
      · obtain ⟨b, off, A', c', rfl, _, hcell, _⟩ := hr1.at_ hlt
        have hlt2 : (k : Int) < (ps.length : Int) := by omega
        by_cases hl : 100 < (ps.getD k []).length
        · have hany := Lib.hid (smallB_at hlt hl)
          generalize (ps.getD k []).length = m at hcell hl
          have hl2 : (100 : Int) < (m : Int) := by omega
          go_wp2_with fail
          go_ret
          exact ⟨by rw [hany.out]; rfl, hb⟩
        · have hno2 : RowKit.Hid (∀ j, j < k + 1 → (ps.getD j []).length ≤ 100) := Lib.hid fun j hj => by
            rcases Nat.lt_or_ge j k with h1 | h1
            · exact hno.out j h1
            · obtain rfl : j = k := by omega
              omega
          generalize (ps.getD k []).length = m at hcell hl
          have hl2 : ¬ (100 : Int) < (m : Int) := by omega
          go_wp2_with fail
          go_round
          case rel => exact ⟨k + 1, by simp, by omega, hno2⟩
          case measure => simp [intOf]; omega
      · have hke : k = ps.length := by omega
        have hall := Lib.hid (smallB_all (ps := ps) (by omega) (by rw [← hke]; exact hno.out))
        subst hke
        go_wp2_with fail
        go_ret
        exact ⟨by rw [hall.out]; rfl, hb⟩

/-- The error of Start. -/
def errP (inn : Bool) (endp : Nat) (max : Int) (ps : List (List UInt8)) (many : Int) : Int := if okF inn endp max ps.length many then (if 256 < many ∨ 256 < ps.length ∨ anyLong max ps = true then 3 else 0) else 1
set_option maxHeartbeats 1600000 in
theorem e10_0 (w : World) (inn : Bool) (endp : Nat) (max : Int) (A : Option Addr) (n c : Nat) (many : Int) (h0 : (endp : Int) = 0) :
    Calls Try.prog 17 #[planP inn endp max A n c many] w fun e w' => e = .returned (.int .i64 1) ∧ Below w.heap.size w w' := by
  have hb := (Below.refl w.heap.size w).alloc (Nat.le_refl _) (.cells #[.bool inn, .int .u8 endp, .int .i64 max, .slice A n c, .int .i64 many] 42)
  rw [h0] at hb
  go_enter Try.func17, Try.ntmps17
  go_wp2
  go_ret
  exact ⟨rfl, hb⟩
set_option maxHeartbeats 1600000 in
theorem e10_1 (w : World) (inn : Bool) (endp : Nat) (max : Int) (A : Option Addr) (n c : Nat) (many : Int) (h0 : ¬ (endp : Int) = 0) (h1 : 15 < (endp : Int)) :
    Calls Try.prog 17 #[planP inn endp max A n c many] w fun e w' => e = .returned (.int .i64 1) ∧ Below w.heap.size w w' := by
  have hb := (Below.refl w.heap.size w).alloc (Nat.le_refl _) (.cells #[.bool inn, .int .u8 endp, .int .i64 max, .slice A n c, .int .i64 many] 42)
  have h0b : ((endp : Int) == 0) = false := by rw [beq_eq_false_iff_ne]; exact h0
  go_enter Try.func17, Try.ntmps17
  go_wp2
  go_ret
  exact ⟨rfl, hb⟩
set_option maxHeartbeats 1600000 in
theorem e10_2 (w : World) (inn : Bool) (endp : Nat) (max : Int) (A : Option Addr) (n c : Nat) (many : Int) (h0 : ¬ (endp : Int) = 0) (h1 : ¬ 15 < (endp : Int)) (h2 : max < 1) :
    Calls Try.prog 17 #[planP inn endp max A n c many] w fun e w' => e = .returned (.int .i64 1) ∧ Below w.heap.size w w' := by
  have hb := (Below.refl w.heap.size w).alloc (Nat.le_refl _) (.cells #[.bool inn, .int .u8 endp, .int .i64 max, .slice A n c, .int .i64 many] 42)
  have h0b : ((endp : Int) == 0) = false := by rw [beq_eq_false_iff_ne]; exact h0
  go_enter Try.func17, Try.ntmps17
  go_wp2
  go_ret
  exact ⟨rfl, hb⟩
set_option maxHeartbeats 1600000 in
theorem e10_3 (w : World) (inn : Bool) (endp : Nat) (max : Int) (A : Option Addr) (n c : Nat) (many : Int) (h0 : ¬ (endp : Int) = 0) (h1 : ¬ 15 < (endp : Int)) (h2 : ¬ max < 1) (h3 : 1024 < max) :
    Calls Try.prog 17 #[planP inn endp max A n c many] w fun e w' => e = .returned (.int .i64 1) ∧ Below w.heap.size w w' := by
  have hb := (Below.refl w.heap.size w).alloc (Nat.le_refl _) (.cells #[.bool inn, .int .u8 endp, .int .i64 max, .slice A n c, .int .i64 many] 42)
  have h0b : ((endp : Int) == 0) = false := by rw [beq_eq_false_iff_ne]; exact h0
  go_enter Try.func17, Try.ntmps17
  go_wp2
  go_ret
  exact ⟨rfl, hb⟩
set_option maxHeartbeats 1600000 in
theorem e10_4 (w : World) (inn : Bool) (endp : Nat) (max : Int) (A : Option Addr) (n c : Nat) (many : Int) (h0 : ¬ (endp : Int) = 0) (h1 : ¬ 15 < (endp : Int)) (h2 : ¬ max < 1) (h3 : ¬ 1024 < max) (hi : inn = true) (h4 : ¬ (n : Int) = 0) :
    Calls Try.prog 17 #[planP inn endp max A n c many] w fun e w' => e = .returned (.int .i64 1) ∧ Below w.heap.size w w' := by
  have hb := (Below.refl w.heap.size w).alloc (Nat.le_refl _) (.cells #[.bool inn, .int .u8 endp, .int .i64 max, .slice A n c, .int .i64 many] 42)
  have h0b : ((endp : Int) == 0) = false := by rw [beq_eq_false_iff_ne]; exact h0
  subst hi
  have h4b : ((n : Int) == 0) = false := by rw [beq_eq_false_iff_ne]; exact h4
  go_enter Try.func17, Try.ntmps17
  go_wp2
  go_ret
  exact ⟨rfl, hb⟩
set_option maxHeartbeats 1600000 in
theorem e10_5 (w : World) (inn : Bool) (endp : Nat) (max : Int) (A : Option Addr) (n c : Nat) (many : Int) (h0 : ¬ (endp : Int) = 0) (h1 : ¬ 15 < (endp : Int)) (h2 : ¬ max < 1) (h3 : ¬ 1024 < max) (hi : inn = true) (h4 : (n : Int) = 0) (h5 : many < 1) :
    Calls Try.prog 17 #[planP inn endp max A n c many] w fun e w' => e = .returned (.int .i64 1) ∧ Below w.heap.size w w' := by
  have hb := (Below.refl w.heap.size w).alloc (Nat.le_refl _) (.cells #[.bool inn, .int .u8 endp, .int .i64 max, .slice A n c, .int .i64 many] 42)
  have h0b : ((endp : Int) == 0) = false := by rw [beq_eq_false_iff_ne]; exact h0
  subst hi
  go_enter Try.func17, Try.ntmps17
  go_wp2
  go_ret
  exact ⟨rfl, hb⟩
set_option maxHeartbeats 1600000 in
theorem e10_6 (w : World) (inn : Bool) (endp : Nat) (max : Int) (A : Option Addr) (n c : Nat) (many : Int) (h0 : ¬ (endp : Int) = 0) (h1 : ¬ 15 < (endp : Int)) (h2 : ¬ max < 1) (h3 : ¬ 1024 < max) (hi : inn = false) (h4 : (n : Int) = 0) :
    Calls Try.prog 17 #[planP inn endp max A n c many] w fun e w' => e = .returned (.int .i64 1) ∧ Below w.heap.size w w' := by
  have hb := (Below.refl w.heap.size w).alloc (Nat.le_refl _) (.cells #[.bool inn, .int .u8 endp, .int .i64 max, .slice A n c, .int .i64 many] 42)
  have h0b : ((endp : Int) == 0) = false := by rw [beq_eq_false_iff_ne]; exact h0
  subst hi
  go_enter Try.func17, Try.ntmps17
  go_wp2
  go_ret
  exact ⟨rfl, hb⟩
set_option maxHeartbeats 1600000 in
theorem e10_7 (w : World) (inn : Bool) (endp : Nat) (max : Int) (A : Option Addr) (n c : Nat) (many : Int) (h0 : ¬ (endp : Int) = 0) (h1 : ¬ 15 < (endp : Int)) (h2 : ¬ max < 1) (h3 : ¬ 1024 < max) (hi : inn = false) (h4 : ¬ (n : Int) = 0) (h5 : ¬ many = 0) :
    Calls Try.prog 17 #[planP inn endp max A n c many] w fun e w' => e = .returned (.int .i64 1) ∧ Below w.heap.size w w' := by
  have hb := (Below.refl w.heap.size w).alloc (Nat.le_refl _) (.cells #[.bool inn, .int .u8 endp, .int .i64 max, .slice A n c, .int .i64 many] 42)
  have h0b : ((endp : Int) == 0) = false := by rw [beq_eq_false_iff_ne]; exact h0
  subst hi
  have h4b : ((n : Int) == 0) = false := by rw [beq_eq_false_iff_ne]; exact h4
  have h5b : (many == 0) = false := by rw [beq_eq_false_iff_ne]; exact h5
  go_enter Try.func17, Try.ntmps17
  go_wp2
  go_ret
  exact ⟨rfl, hb⟩
set_option maxHeartbeats 1600000 in
theorem e10_8 (w : World) (inn : Bool) (endp : Nat) (max : Int) (A : Option Addr) (n c : Nat) (many : Int) (h0 : ¬ (endp : Int) = 0) (h1 : ¬ 15 < (endp : Int)) (h2 : ¬ max < 1) (h3 : ¬ 1024 < max) (hi : inn = true) (h4 : (n : Int) = 0) (h5 : ¬ many < 1) (h6 : 256 < many) :
    Calls Try.prog 17 #[planP inn endp max A n c many] w fun e w' => e = .returned (.int .i64 3) ∧ Below w.heap.size w w' := by
  have hb := (Below.refl w.heap.size w).alloc (Nat.le_refl _) (.cells #[.bool inn, .int .u8 endp, .int .i64 max, .slice A n c, .int .i64 many] 42)
  have h0b : ((endp : Int) == 0) = false := by rw [beq_eq_false_iff_ne]; exact h0
  subst hi
  go_enter Try.func17, Try.ntmps17
  go_wp2
  go_ret
  exact ⟨rfl, hb⟩
set_option maxHeartbeats 1600000 in
theorem e10_9 (w : World) (inn : Bool) (endp : Nat) (max : Int) (A : Option Addr) (n c : Nat) (many : Int) (h0 : ¬ (endp : Int) = 0) (h1 : ¬ 15 < (endp : Int)) (h2 : ¬ max < 1) (h3 : ¬ 1024 < max) (hi : inn = false) (h4 : ¬ (n : Int) = 0) (h5 : many = 0) (h6 : 256 < (n : Int)) :
    Calls Try.prog 17 #[planP inn endp max A n c many] w fun e w' => e = .returned (.int .i64 3) ∧ Below w.heap.size w w' := by
  have hb := (Below.refl w.heap.size w).alloc (Nat.le_refl _) (.cells #[.bool inn, .int .u8 endp, .int .i64 max, .slice A n c, .int .i64 many] 42)
  have h0b : ((endp : Int) == 0) = false := by rw [beq_eq_false_iff_ne]; exact h0
  subst hi
  subst h5
  have h4b : ((n : Int) == 0) = false := by rw [beq_eq_false_iff_ne]; exact h4
  go_enter Try.func17, Try.ntmps17
  go_wp2
  go_ret
  exact ⟨rfl, hb⟩
set_option maxHeartbeats 3200000 in
theorem e10_out (w : World) (endp : Nat) (max : Int) (A : Option Addr) (c : Nat) (ps : List (List UInt8)) (h0 : ¬ (endp : Int) = 0) (h1 : ¬ 15 < (endp : Int)) (h2 : ¬ max < 1) (h3 : ¬ 1024 < max) (h4 : ¬ (ps.length : Int) = 0) (h6 : ¬ 256 < (ps.length : Int)) (hr : Rds w w.heap.size A c ps) (v : Int) (hv : RowKit.Hid (v = if anyLong max ps = true then 3 else 0)) :
    Calls Try.prog 17 #[planP false endp max A ps.length c 0] w fun e w' => e = .returned (.int .i64 v) ∧ Below w.heap.size w w' := by
    have hb := (Below.refl w.heap.size w).alloc (Nat.le_refl _) (.cells #[.bool false, .int .u8 endp, .int .i64 max, .slice A ps.length c, .int .i64 0] 42)
    have hbox := heap_alloc_new w (.cells #[.bool false, .int .u8 endp, .int .i64 max, .slice A ps.length c, .int .i64 0] 42)
    have hr1 := hr.belowTop hb
    have hle := hr.le
    have hcap := hr.cap
    have h0b : ((endp : Int) == 0) = false := by rw [beq_eq_false_iff_ne]; exact h0
    have h4b : ((ps.length : Int) == 0) = false := by rw [beq_eq_false_iff_ne]; exact h4
    have c2 := block_at hbox (i := 2) rfl
    have c3 := block_at hbox (i := 3) rfl
    clear hbox
    obtain ⟨g, hg⟩ : ∃ g, w.heap.size = g := ⟨_, rfl⟩
    go_enter Try.func17, Try.ntmps17
    go_wp2_with fail
    generalize w.alloc (.cells #[.bool false, .int .u8 endp, .int .i64 max, .slice A ps.length c, .int .i64 0] 42) = W at *
    rw [hg] at c2 c3
    replace hg := Lib.hid hg
    go_loopw [3] (fun v wr => ∃ k : Nat, v = .int .i64 (k : Int) ∧ k ≤ ps.length ∧ RowKit.Hid (∀ j, j < k → ((ps.getD j []).length : Int) ≤ max) ∧ RowKit.Hid (∀ p, wr.cell? p = W.cell? p) ∧ RowKit.Hid (Below w.heap.size w wr)) (fun v _ => ps.length - (intOf v).toNat)
    case atStart => exact ⟨0, rfl, Nat.zero_le _, Lib.hid (fun j hj => absurd hj (by omega)), Lib.hid (fun _ => rfl), Lib.hid hb⟩
    case round =>
      obtain ⟨k, rfl, hk, hno, hsame, hbw⟩ := hrel
      have d2 := (hsame.out ⟨g, 2, none⟩).trans c2
      have d3 := (hsame.out ⟨g, 3, none⟩).trans c3
      by_cases hlt : k < ps.length
      · obtain ⟨b, off, A', c', rfl, _, hcell0, _⟩ := hr1.at_ hlt
        have hcell := (hsame.out ⟨b, off + k, none⟩).trans hcell0
        clear hcell0
        have hlt2 : (k : Int) < (ps.length : Int) := by omega
        by_cases hl : max < ((ps.getD k []).length : Int)
        · have hany := Lib.hid (anyLong_at hlt hl)
          generalize (ps.getD k []).length = m at hcell hl
          go_wp2_with fail
          go_quiet (fail)
          go_wp2_with fail
          go_ret
          refine ⟨?_, below_drewN hbw.out _⟩
          rw [hv.out, if_pos hany.out]
          rfl
        · have hno2 : RowKit.Hid (∀ j, j < k + 1 → ((ps.getD j []).length : Int) ≤ max) := Lib.hid fun j hj => by
            rcases Nat.lt_or_ge j k with h1 | h1
            · exact hno.out j h1
            · obtain rfl : j = k := by omega
              omega
          generalize (ps.getD k []).length = m at hcell hl
          go_wp2_with fail
          go_quiet (fail)
          go_wp2_with fail
          go_round
          case rel => exact ⟨k + 1, by simp, by omega, hno2, Lib.hid fun p => hsame.out p, Lib.hid (below_drewN hbw.out _)⟩
          case measure => simp [intOf]; omega
      · have hke : k = ps.length := by omega
        subst hke
        have hall := Lib.hid (anyLong_none hno.out)
        go_wp2_with fail
        go_ret
        refine ⟨?_, hbw.out⟩
        rw [hv.out, if_neg (by rw [hall.out]; simp)]
        rfl
set_option maxHeartbeats 3200000 in
theorem e10_in (w : World) (endp : Nat) (max : Int) (A : Option Addr) (c : Nat) (many : Int) (h0 : ¬ (endp : Int) = 0) (h1 : ¬ 15 < (endp : Int)) (h2 : ¬ max < 1) (h3 : ¬ 1024 < max) (h5 : ¬ many < 1) (h6 : ¬ 256 < many) :
    Calls Try.prog 17 #[planP true endp max A 0 c many] w fun e w' => e = .returned (.int .i64 0) ∧ Below w.heap.size w w' := by
  have hb := (Below.refl w.heap.size w).alloc (Nat.le_refl _) (.cells #[.bool true, .int .u8 endp, .int .i64 max, .slice A 0 c, .int .i64 many] 42)
  have hbox := heap_alloc_new w (.cells #[.bool true, .int .u8 endp, .int .i64 max, .slice A 0 c, .int .i64 many] 42)
  have h0b : ((endp : Int) == 0) = false := by rw [beq_eq_false_iff_ne]; exact h0
  have c3 := block_at hbox (i := 3) rfl
  clear hbox
  obtain ⟨g, hg⟩ : ∃ g, w.heap.size = g := ⟨_, rfl⟩
  go_enter Try.func17, Try.ntmps17
  go_wp2_with fail
  generalize w.alloc (.cells #[.bool true, .int .u8 endp, .int .i64 max, .slice A 0 c, .int .i64 many] 42) = W at *
  rw [hg] at c3
  replace hg := Lib.hid hg
  go_loop [3] (fun v => v = .int .i64 0) (fun _ => 0)
  case atStart => rfl
  case round =>
    obtain rfl := hrel
    go_wp2_with fail
    go_ret
    exact ⟨rfl, hb⟩

theorem okF_bad {inn : Bool} {endp : Nat} {max : Int} {n : Nat} {many : Int} (h : (endp : Int) = 0 ∨ 15 < (endp : Int) ∨ max < 1 ∨ 1024 < max ∨ (inn = true ∧ ¬ (n : Int) = 0) ∨ (inn = true ∧ many < 1) ∨ (inn = false ∧ (n : Int) = 0) ∨ (inn = false ∧ ¬ many = 0)) : okF inn endp max n many = false := by
  cases inn <;> simp [okF] <;> simp at h <;> omega
theorem okF_good {inn : Bool} {endp : Nat} {max : Int} {n : Nat} {many : Int} (h0 : ¬ (endp : Int) = 0) (h1 : ¬ 15 < (endp : Int)) (h2 : ¬ max < 1) (h3 : ¬ 1024 < max) (h : (inn = true ∧ (n : Int) = 0 ∧ ¬ many < 1) ∨ (inn = false ∧ ¬ (n : Int) = 0 ∧ many = 0)) : okF inn endp max n many = true := by
  cases inn <;> simp [okF] <;> simp at h <;> omega
theorem errP_bad {inn : Bool} {endp : Nat} {max : Int} {ps : List (List UInt8)} {many : Int} (h : okF inn endp max ps.length many = false) : errP inn endp max ps many = 1 := by simp [errP, h]
theorem errP_lim {inn : Bool} {endp : Nat} {max : Int} {ps : List (List UInt8)} {many : Int} (h : okF inn endp max ps.length many = true) (h2 : 256 < many ∨ 256 < ps.length ∨ anyLong max ps = true) : errP inn endp max ps many = 3 := by
  unfold errP
  rw [if_pos h, if_pos h2]
theorem errP_ok {inn : Bool} {endp : Nat} {max : Int} {ps : List (List UInt8)} {many : Int} (h : okF inn endp max ps.length many = true) (h2 : ¬ (256 < many ∨ 256 < ps.length ∨ anyLong max ps = true)) : errP inn endp max ps many = 0 := by
  unfold errP
  rw [if_pos h, if_neg h2]

theorem ref10_any (w : World) (inn : Bool) (endp : Nat) (max : Int) (A : Option Addr) (c : Nat) (ps : List (List UInt8)) (many : Int) (hr : Rds w w.heap.size A c ps) :
    Calls Try.prog 17 #[planP inn endp max A ps.length c many] w fun e w' => e = .returned (.int .i64 (errP inn endp max ps many)) ∧ Below w.heap.size w w' := by
  by_cases h0 : (endp : Int) = 0
  · rw [errP_bad (okF_bad (.inl h0))]; exact e10_0 w inn endp max A _ c many h0
  by_cases h1 : 15 < (endp : Int)
  · rw [errP_bad (okF_bad (.inr (.inl h1)))]; exact e10_1 w inn endp max A _ c many h0 h1
  by_cases h2 : max < 1
  · rw [errP_bad (okF_bad (.inr (.inr (.inl h2))))]; exact e10_2 w inn endp max A _ c many h0 h1 h2
  by_cases h3 : 1024 < max
  · rw [errP_bad (okF_bad (.inr (.inr (.inr (.inl h3)))))]; exact e10_3 w inn endp max A _ c many h0 h1 h2 h3
  cases inn with
  | true =>
    by_cases h4 : (ps.length : Int) = 0
    · by_cases h5 : many < 1
      · rw [errP_bad (okF_bad (by simp [h5]))]; exact e10_5 w true endp max A _ c many h0 h1 h2 h3 rfl h4 h5
      · have hok : okF true endp max ps.length many = true := okF_good h0 h1 h2 h3 (.inl ⟨rfl, h4, h5⟩)
        by_cases h6 : 256 < many
        · rw [errP_lim hok (.inl h6)]; exact e10_8 w true endp max A _ c many h0 h1 h2 h3 rfl h4 h5 h6
        · have hnil : ps = [] := List.eq_nil_of_length_eq_zero (by omega)
          rw [errP_ok hok (by subst hnil; simp [anyLong]; omega)]
          subst hnil
          exact e10_in w endp max A c many h0 h1 h2 h3 h5 h6
    · rw [errP_bad (okF_bad (.inr (.inr (.inr (.inr (.inl ⟨rfl, h4⟩))))))]; exact e10_4 w true endp max A _ c many h0 h1 h2 h3 rfl h4
  | false =>
    by_cases h4 : (ps.length : Int) = 0
    · rw [errP_bad (okF_bad (.inr (.inr (.inr (.inr (.inr (.inr (.inl ⟨rfl, h4⟩))))))))]; exact e10_6 w false endp max A _ c many h0 h1 h2 h3 rfl h4
    · by_cases h5 : many = 0
      · subst h5
        have hok : okF false endp max ps.length 0 = true := okF_good h0 h1 h2 h3 (.inr ⟨rfl, h4, rfl⟩)
        by_cases h6 : 256 < (ps.length : Int)
        · rw [errP_lim hok (.inr (.inl (by omega)))]; exact e10_9 w false endp max A _ c 0 h0 h1 h2 h3 rfl h4 rfl h6
        · refine e10_out w endp max A c ps h0 h1 h2 h3 h4 h6 hr _ (Lib.hid ?_)
          by_cases ha : anyLong max ps = true
          · rw [errP_lim hok (.inr (.inr ha)), if_pos ha]
          · rw [errP_ok hok (fun h => by rcases h with h | h | h; omega; omega; exact ha h), if_neg ha]
      · rw [errP_bad (okF_bad (.inr (.inr (.inr (.inr (.inr (.inr (.inr ⟨rfl, h5⟩))))))))]; exact e10_7 w false endp max A _ c many h0 h1 h2 h3 rfl h4 h5
end Go.Proofs.Ytochkonjfhhiiaa
