/-
  Helper text: the walk of the law SpeedsWorst; no statement is proved here.
-/
import Derived.Test.YtkmjemaajgdoiaaDoorRefS
namespace Go.Proofs.YtkmjemaajgdoiaaDoor
open Go Go.RowKit

theorem lawWorst_long (w : World) (A : Option Addr) (c n : Nat) (m : Int) (h : 300 < n) : Calls Tryd.prog 3 #[.slice A n c, .int .i64 m] w (ResB w true) := by
  have t1 : (300 : Int) < (n : Int) := by omega
  go_enter Tryd.func3, Tryd.ntmps3
  go_wp2
  go_ret
  exact ⟨rfl, Below.refl _ _⟩

set_option maxHeartbeats 1600000 in
set_option maxRecDepth 100000 in
theorem lawWorst_low (w : World) (hV : Lv.Laid w) (A : Option Addr) (c : Nat) (xs : List UInt8) (hx : Rd w w.heap.size A c xs) (hl : xs.length ≤ 300) (n : Int) (hn : n < 1) :
    Calls Tryd.prog 3 #[.slice A xs.length c, .int .i64 n] w (ResB w true) := by
  have t1 : ¬ (300 : Int) < (xs.length : Int) := by omega
  have KL := Lib.hid lives_any
  have hmk := fun W : World => Lv.make_full (xs.length : Int) W (by omega) (by omega)
  rw [show (xs.length : Int).toNat = xs.length from by omega] at hmk
  have t5 := trivial
  have t6 := trivial
  have K1 := Lib.hid (worst_bad w n (.inl hn))
  go_enter Tryd.func3, Tryd.ntmps3
  go_wp2_with fail
  refine K1.out.mono ?_
  rintro e wq ⟨rfl, hb⟩
  clear K1
  by_cases h0 : xs.length = 0
  · have h0i : (xs.length : Int) = 0 := by omega
    have h0b : ((xs.length : Int) == 0) = true := by rw [beq_iff_eq]; exact h0i
    clear hmk t5 t6
    go_wp2_with fail
    refine (KL.out _).mono ?_
    rintro e w8 ⟨rfl, b8⟩
    go_wp2
    go_ret
    exact ⟨rfl, hb.trans (b8.mono hb.size)⟩
  · have h0i : ¬ (xs.length : Int) = 0 := by omega
    have h0b : ((xs.length : Int) == 0) = false := by rw [beq_eq_false_iff_ne]; exact h0i
    have KS := Lib.hid fun (W : World) (hV : Lv.Laid W) (h : Rd W W.heap.size A c xs) => Lv.send_own W hV A c xs h (by omega) (by omega)
    have KW := Lib.hid fun (W : World) => worst_good W xs.length (by omega) (by omega)
    have KO := Lib.hid fun (W : World) (hV : Lv.Laid W) (A : Option Addr) (c : Nat) (h : Rd W W.heap.size A c (List.replicate xs.length 255)) => Lv.send_own W hV A c (List.replicate xs.length 255) h (by rw [List.length_replicate]; omega) (by rw [List.length_replicate]; omega)
    have hls := Lv.sendL_most xs
    have hlo := Lv.sendL_ones xs.length
    rw [List.length_replicate] at KO
    generalize Lv.sendL xs = ls at KS hls
    generalize Lv.sendL (List.replicate xs.length 255) = lo at KO hlo
    generalize worstN xs.length = y at KW hls hlo
    have t9 : ¬ (y : Int) < (ls.length : Int) := by omega
    have Hlo := Lib.hid hlo
    have hmk := Lib.hid hmk
    clear hls hlo t5 t6
    go_wp2_with fail
    refine (KS.out _ (hV.below hb) (hx.belowTop hb)).mono ?_
    rintro e w2 ⟨v2, rfl, o2, b2⟩
    obtain ⟨A2, c2, rfl, r2⟩ := Rd.of_own o2
    have b2 := hb.trans (b2.mono hb.size)
    clear o2 r2
    go_wp2_with fail
    refine (KW.out _).mono ?_
    rintro e w3 ⟨rfl, b3⟩
    have b3 := b2.trans (b3.mono b2.size)
    have hmk := hmk.out
    clear KS KW
    go_wp2
    clear hmk
    go_loopw [10] (fun i wr => ∃ k : Nat, k ≤ xs.length ∧ i = .int .i64 k ∧ Row wr w3.heap.size 5 (fillL xs.length k onesF) ∧ Below w3.heap.size w3 wr) (fun i _ => xs.length - (intOf i).toNat)
    case atStart => exact ⟨0, Nat.zero_le _, rfl, by rw [fillL_zero]; exact Row.made w3 _ _, (Below.refl _ _).alloc (Nat.le_refl _) _⟩
    case round =>
      obtain ⟨k, hk, rfl, hrow, hb4⟩ := hrel
      by_cases hlt : k < xs.length
      · have hc2 := hrow.cell (i := k) (by rw [fillL_len]; exact hlt)
        have hf2 := hrow.frozen k
        have hset := hrow.set k (y := onesF k) (u := .int .u8 255) rfl
        rw [fillL_set] at hset
        generalize (fillL xs.length k onesF).getD k 0 = old at hc2
        have Hset := Lib.hid hset
        clear hset
        go_wp2
        go_roundw
        case rel => exact ⟨k + 1, by omega, by go_num, Hset.out, hb4.setCell (Nat.le_refl _) _⟩
        case measure => simp [intOf]; omega
      · have hk9 : k = xs.length := by omega
        have hrd := hrow.rd (by rw [fillL_len]; omega)
        rw [hk9, fill_ones, List.length_replicate] at hrd
        have hrdh := Lib.hid hrd
        have hki : ¬ (k : Int) < (xs.length : Int) := by omega
        have b4 := b3.trans (hb4.mono b3.size)
        have hVh := Lib.hid (hV.below b4)
        clear hrow hrd hk9 hlt hk hb4
        go_wp2_with fail
        refine (KO.out _ hVh.out _ _ hrdh.out).mono ?_
        rintro e w5 ⟨v5, rfl, o5, b5⟩
        obtain ⟨A5, c5, rfl, r5⟩ := Rd.of_own o5
        have b5 := b4.trans (b5.mono b4.size)
        have hly := Hlo.out
        have hlyi : ((lo.length : Nat) : Int) = (y : Int) := by omega
        have hlyb : (((lo.length : Nat) : Int) == (y : Int)) = true := by rw [beq_iff_eq]; exact hlyi
        clear o5 r5 hly Hlo KO
        go_wp2_with fail
        refine (KL.out _).mono ?_
        rintro e w8 ⟨rfl, b8⟩
        go_wp2
        go_ret
        exact ⟨rfl, b5.trans (b8.mono b5.size)⟩

set_option maxHeartbeats 1600000 in
set_option maxRecDepth 100000 in
theorem lawWorst_high (w : World) (hV : Lv.Laid w) (A : Option Addr) (c : Nat) (xs : List UInt8) (hx : Rd w w.heap.size A c xs) (hl : xs.length ≤ 300) (n : Int) (hn0 : ¬ n < 1) (hn : 1027 < n) :
    Calls Tryd.prog 3 #[.slice A xs.length c, .int .i64 n] w (ResB w true) := by
  have t1 : ¬ (300 : Int) < (xs.length : Int) := by omega
  have KL := Lib.hid lives_any
  have hmk := fun W : World => Lv.make_full (xs.length : Int) W (by omega) (by omega)
  rw [show (xs.length : Int).toNat = xs.length from by omega] at hmk
  have t5 := trivial
  have t6 := trivial
  have K1 := Lib.hid (worst_bad w n (.inr hn))
  go_enter Tryd.func3, Tryd.ntmps3
  go_wp2_with fail
  refine K1.out.mono ?_
  rintro e wq ⟨rfl, hb⟩
  clear K1
  by_cases h0 : xs.length = 0
  · have h0i : (xs.length : Int) = 0 := by omega
    have h0b : ((xs.length : Int) == 0) = true := by rw [beq_iff_eq]; exact h0i
    clear hmk t5 t6
    go_wp2_with fail
    refine (KL.out _).mono ?_
    rintro e w8 ⟨rfl, b8⟩
    go_wp2
    go_ret
    exact ⟨rfl, hb.trans (b8.mono hb.size)⟩
  · have h0i : ¬ (xs.length : Int) = 0 := by omega
    have h0b : ((xs.length : Int) == 0) = false := by rw [beq_eq_false_iff_ne]; exact h0i
    have KS := Lib.hid fun (W : World) (hV : Lv.Laid W) (h : Rd W W.heap.size A c xs) => Lv.send_own W hV A c xs h (by omega) (by omega)
    have KW := Lib.hid fun (W : World) => worst_good W xs.length (by omega) (by omega)
    have KO := Lib.hid fun (W : World) (hV : Lv.Laid W) (A : Option Addr) (c : Nat) (h : Rd W W.heap.size A c (List.replicate xs.length 255)) => Lv.send_own W hV A c (List.replicate xs.length 255) h (by rw [List.length_replicate]; omega) (by rw [List.length_replicate]; omega)
    have hls := Lv.sendL_most xs
    have hlo := Lv.sendL_ones xs.length
    rw [List.length_replicate] at KO
    generalize Lv.sendL xs = ls at KS hls
    generalize Lv.sendL (List.replicate xs.length 255) = lo at KO hlo
    generalize worstN xs.length = y at KW hls hlo
    have t9 : ¬ (y : Int) < (ls.length : Int) := by omega
    have Hlo := Lib.hid hlo
    have hmk := Lib.hid hmk
    clear hls hlo t5 t6
    go_wp2_with fail
    refine (KS.out _ (hV.below hb) (hx.belowTop hb)).mono ?_
    rintro e w2 ⟨v2, rfl, o2, b2⟩
    obtain ⟨A2, c2, rfl, r2⟩ := Rd.of_own o2
    have b2 := hb.trans (b2.mono hb.size)
    clear o2 r2
    go_wp2_with fail
    refine (KW.out _).mono ?_
    rintro e w3 ⟨rfl, b3⟩
    have b3 := b2.trans (b3.mono b2.size)
    have hmk := hmk.out
    clear KS KW
    go_wp2
    clear hmk
    go_loopw [10] (fun i wr => ∃ k : Nat, k ≤ xs.length ∧ i = .int .i64 k ∧ Row wr w3.heap.size 5 (fillL xs.length k onesF) ∧ Below w3.heap.size w3 wr) (fun i _ => xs.length - (intOf i).toNat)
    case atStart => exact ⟨0, Nat.zero_le _, rfl, by rw [fillL_zero]; exact Row.made w3 _ _, (Below.refl _ _).alloc (Nat.le_refl _) _⟩
    case round =>
      obtain ⟨k, hk, rfl, hrow, hb4⟩ := hrel
      by_cases hlt : k < xs.length
      · have hc2 := hrow.cell (i := k) (by rw [fillL_len]; exact hlt)
        have hf2 := hrow.frozen k
        have hset := hrow.set k (y := onesF k) (u := .int .u8 255) rfl
        rw [fillL_set] at hset
        generalize (fillL xs.length k onesF).getD k 0 = old at hc2
        have Hset := Lib.hid hset
        clear hset
        go_wp2
        go_roundw
        case rel => exact ⟨k + 1, by omega, by go_num, Hset.out, hb4.setCell (Nat.le_refl _) _⟩
        case measure => simp [intOf]; omega
      · have hk9 : k = xs.length := by omega
        have hrd := hrow.rd (by rw [fillL_len]; omega)
        rw [hk9, fill_ones, List.length_replicate] at hrd
        have hrdh := Lib.hid hrd
        have hki : ¬ (k : Int) < (xs.length : Int) := by omega
        have b4 := b3.trans (hb4.mono b3.size)
        have hVh := Lib.hid (hV.below b4)
        clear hrow hrd hk9 hlt hk hb4
        go_wp2_with fail
        refine (KO.out _ hVh.out _ _ hrdh.out).mono ?_
        rintro e w5 ⟨v5, rfl, o5, b5⟩
        obtain ⟨A5, c5, rfl, r5⟩ := Rd.of_own o5
        have b5 := b4.trans (b5.mono b4.size)
        have hly := Hlo.out
        have hlyi : ((lo.length : Nat) : Int) = (y : Int) := by omega
        have hlyb : (((lo.length : Nat) : Int) == (y : Int)) = true := by rw [beq_iff_eq]; exact hlyi
        clear o5 r5 hly Hlo KO
        go_wp2_with fail
        refine (KL.out _).mono ?_
        rintro e w8 ⟨rfl, b8⟩
        go_wp2
        go_ret
        exact ⟨rfl, b5.trans (b8.mono b5.size)⟩

set_option maxHeartbeats 1600000 in
set_option maxRecDepth 100000 in
theorem lawWorst_mid (w : World) (hV : Lv.Laid w) (A : Option Addr) (c : Nat) (xs : List UInt8) (hx : Rd w w.heap.size A c xs) (hl : xs.length ≤ 300) (n : Nat) (hn : 1 ≤ n) (hn2 : n ≤ 1027) :
    Calls Tryd.prog 3 #[.slice A xs.length c, .int .i64 (n : Int)] w (ResB w true) := by
  have t1 : ¬ (300 : Int) < (xs.length : Int) := by omega
  have KL := Lib.hid lives_any
  have hmk := fun W : World => Lv.make_full (xs.length : Int) W (by omega) (by omega)
  rw [show (xs.length : Int).toNat = xs.length from by omega] at hmk
  have t5 := trivial
  have t6 := trivial
  have K1 := Lib.hid (worst_good w n hn hn2)
  have K2 := Lib.hid fun W => refWorst_any W n (by omega)
  have q1 : ¬ (n : Int) < 1 := by omega
  have q2 : ¬ 1027 < (n : Int) := by omega
  generalize worstN n = z at K1 K2
  go_enter Tryd.func3, Tryd.ntmps3
  go_wp2_with fail
  refine K1.out.mono ?_
  rintro e wq0 ⟨rfl, hb⟩
  go_wp2_with fail
  refine (K2.out _).mono ?_
  rintro e wq ⟨rfl, hb2⟩
  have hb := hb.trans (hb2.mono hb.size)
  clear K1 K2 hb2
  by_cases h0 : xs.length = 0
  · have h0i : (xs.length : Int) = 0 := by omega
    have h0b : ((xs.length : Int) == 0) = true := by rw [beq_iff_eq]; exact h0i
    clear hmk t5 t6
    go_wp2_with fail
    refine (KL.out _).mono ?_
    rintro e w8 ⟨rfl, b8⟩
    go_wp2
    go_ret
    exact ⟨rfl, hb.trans (b8.mono hb.size)⟩
  · have h0i : ¬ (xs.length : Int) = 0 := by omega
    have h0b : ((xs.length : Int) == 0) = false := by rw [beq_eq_false_iff_ne]; exact h0i
    have KS := Lib.hid fun (W : World) (hV : Lv.Laid W) (h : Rd W W.heap.size A c xs) => Lv.send_own W hV A c xs h (by omega) (by omega)
    have KW := Lib.hid fun (W : World) => worst_good W xs.length (by omega) (by omega)
    have KO := Lib.hid fun (W : World) (hV : Lv.Laid W) (A : Option Addr) (c : Nat) (h : Rd W W.heap.size A c (List.replicate xs.length 255)) => Lv.send_own W hV A c (List.replicate xs.length 255) h (by rw [List.length_replicate]; omega) (by rw [List.length_replicate]; omega)
    have hls := Lv.sendL_most xs
    have hlo := Lv.sendL_ones xs.length
    rw [List.length_replicate] at KO
    generalize Lv.sendL xs = ls at KS hls
    generalize Lv.sendL (List.replicate xs.length 255) = lo at KO hlo
    generalize worstN xs.length = y at KW hls hlo
    have t9 : ¬ (y : Int) < (ls.length : Int) := by omega
    have Hlo := Lib.hid hlo
    have hmk := Lib.hid hmk
    clear hls hlo t5 t6
    go_wp2_with fail
    refine (KS.out _ (hV.below hb) (hx.belowTop hb)).mono ?_
    rintro e w2 ⟨v2, rfl, o2, b2⟩
    obtain ⟨A2, c2, rfl, r2⟩ := Rd.of_own o2
    have b2 := hb.trans (b2.mono hb.size)
    clear o2 r2
    go_wp2_with fail
    refine (KW.out _).mono ?_
    rintro e w3 ⟨rfl, b3⟩
    have b3 := b2.trans (b3.mono b2.size)
    have hmk := hmk.out
    clear KS KW
    go_wp2
    clear hmk
    go_loopw [10] (fun i wr => ∃ k : Nat, k ≤ xs.length ∧ i = .int .i64 k ∧ Row wr w3.heap.size 5 (fillL xs.length k onesF) ∧ Below w3.heap.size w3 wr) (fun i _ => xs.length - (intOf i).toNat)
    case atStart => exact ⟨0, Nat.zero_le _, rfl, by rw [fillL_zero]; exact Row.made w3 _ _, (Below.refl _ _).alloc (Nat.le_refl _) _⟩
    case round =>
      obtain ⟨k, hk, rfl, hrow, hb4⟩ := hrel
      by_cases hlt : k < xs.length
      · have hc2 := hrow.cell (i := k) (by rw [fillL_len]; exact hlt)
        have hf2 := hrow.frozen k
        have hset := hrow.set k (y := onesF k) (u := .int .u8 255) rfl
        rw [fillL_set] at hset
        generalize (fillL xs.length k onesF).getD k 0 = old at hc2
        have Hset := Lib.hid hset
        clear hset
        go_wp2
        go_roundw
        case rel => exact ⟨k + 1, by omega, by go_num, Hset.out, hb4.setCell (Nat.le_refl _) _⟩
        case measure => simp [intOf]; omega
      · have hk9 : k = xs.length := by omega
        have hrd := hrow.rd (by rw [fillL_len]; omega)
        rw [hk9, fill_ones, List.length_replicate] at hrd
        have hrdh := Lib.hid hrd
        have hki : ¬ (k : Int) < (xs.length : Int) := by omega
        have b4 := b3.trans (hb4.mono b3.size)
        have hVh := Lib.hid (hV.below b4)
        clear hrow hrd hk9 hlt hk hb4
        go_wp2_with fail
        refine (KO.out _ hVh.out _ _ hrdh.out).mono ?_
        rintro e w5 ⟨v5, rfl, o5, b5⟩
        obtain ⟨A5, c5, rfl, r5⟩ := Rd.of_own o5
        have b5 := b4.trans (b5.mono b4.size)
        have hly := Hlo.out
        have hlyi : ((lo.length : Nat) : Int) = (y : Int) := by omega
        have hlyb : (((lo.length : Nat) : Int) == (y : Int)) = true := by rw [beq_iff_eq]; exact hlyi
        clear o5 r5 hly Hlo KO
        go_wp2_with fail
        refine (KL.out _).mono ?_
        rintro e w8 ⟨rfl, b8⟩
        go_wp2
        go_ret
        exact ⟨rfl, b5.trans (b8.mono b5.size)⟩

theorem lawWorst_any (w : World) (hV : Lv.Laid w) (A : Option Addr) (c : Nat) (xs : List UInt8) (hx : Rd w w.heap.size A c xs) (n : Int) :
    Calls Tryd.prog 3 #[.slice A xs.length c, .int .i64 n] w (ResB w true) := by
  by_cases hl : 300 < xs.length
  · exact lawWorst_long w A c _ n hl
  · by_cases h1 : n < 1
    · exact lawWorst_low w hV A c xs hx (by omega) n h1
    · by_cases h2 : 1027 < n
      · exact lawWorst_high w hV A c xs hx (by omega) n h1 h2
      · obtain ⟨m, rfl⟩ : ∃ m : Nat, n = (m : Int) := ⟨n.toNat, by omega⟩
        exact lawWorst_mid w hV A c xs hx (by omega) m (by omega) (by omega)

end Go.Proofs.YtkmjemaajgdoiaaDoor
