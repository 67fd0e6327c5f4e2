/-
  Helper text: the walk of the law BulksCut; no statement is proved here.
-/
import Derived.Test.YtfaocndelibadaaCuW
import Derived.Test.YtfaocndelibadaaLv9
namespace Go.Proofs.Ytfaocndelibadaa
open Go Go.RowKit

set_option maxRecDepth 100000 in
set_option maxHeartbeats 1600000 in
theorem lawCut_no (w : World) (A : Option Addr) (c : Nat) (xs : List UInt8) (max : Int) (zero : Bool) (hr : Rd w w.heap.size A c xs) (hm : ¬ (1 ≤ max ∧ max ≤ 1024)) :
    Calls Try.prog 3 #[.slice A xs.length c, .int .i64 max, .bool zero] w fun e w' => e = .returned (.bool true) ∧ Below w.heap.size w w' := by
  by_cases hx : (1500 : Int) < (xs.length : Int)
  · go_enter Try.func3, Try.ntmps3
    go_wp2_with fail
    go_ret
    exact ⟨rfl, Below.refl _ _⟩
  · have q0 := hr.cv
    have KC := Lib.hid (cut_no w A xs.length c max zero hm)
    have KJ := Lib.hid (fun W => join_no W none 0 0 max hm)
    by_cases h1 : max < 1
    · go_enter Try.func3, Try.ntmps3
      go_wp2_with fail
      refine KC.out.mono ?_
      rintro e w1 ⟨rfl, hB1⟩
      go_wp2_with fail
      refine (KJ.out _).mono ?_
      rintro e w2 ⟨rfl, hB2⟩
      go_wp2_with fail
      refine (lives_any _).mono ?_
      rintro e w3 ⟨rfl, hB3⟩
      go_wp2_with fail
      go_ret
      exact ⟨rfl, (hB1.trans (hB2.mono hB1.size)).trans (hB3.mono (Nat.le_trans hB1.size hB2.size))⟩
    · have h2 : 1024 < max := by omega
      go_enter Try.func3, Try.ntmps3
      go_wp2_with fail
      refine KC.out.mono ?_
      rintro e w1 ⟨rfl, hB1⟩
      go_wp2_with fail
      refine (KJ.out _).mono ?_
      rintro e w2 ⟨rfl, hB2⟩
      go_wp2_with fail
      refine (lives_any _).mono ?_
      rintro e w3 ⟨rfl, hB3⟩
      go_wp2_with fail
      go_ret
      exact ⟨rfl, (hB1.trans (hB2.mono hB1.size)).trans (hB3.mono (Nat.le_trans hB1.size hB2.size))⟩

set_option maxRecDepth 100000 in
set_option maxHeartbeats 3200000 in
theorem lawCut_full (w : World) (A : Option Addr) (c : Nat) (xs : List UInt8) (M : Nat) (zero : Bool) (hr : Rd w w.heap.size A c xs) (hm1 : 1 ≤ M) (hm2 : M ≤ 1024) (hx : xs.length ≤ 1500) (hl : (0 : Int) < (xs.length : Int)) (hd : (xs.length : Int) % (M : Int) = 0) (hz : zero = false) :
    Calls Try.prog 3 #[.slice A xs.length c, .int .i64 (M : Int), .bool zero] w fun e w' => e = .returned (.bool true) ∧ Below w.heap.size w w' := by
  subst hz
  have q0 := hr.cv
  have KC := cut_any w A c M false xs hm1 hm2 (by omega) hr
  have KR := fun W (hW : Rd W W.heap.size A c xs) => refCut_any W A c xs M false hW hm1 hm2 hx
  have hpe := refF_eq M hm1 false (xs.length + 2) xs (Nat.le_refl _)
  rw [hpe] at KR
  obtain ⟨hpf, hpl, _, hpm⟩ := cut_flat M hm1 false (xs.length + 2) xs (Nat.le_refl _)
  have hjs := jS_all (M : Int) (cutF M false (xs.length + 2) xs)
  rw [cut_fold M hm1 false (xs.length + 2) xs [] [] (Nat.le_refl _), show fullF M false xs.length = true by unfold fullF; simp; exact ⟨by omega, by omega⟩] at hjs
  have KJ := fun W A2 (hW : Rds W W.heap.size A2 (cutF M false (xs.length + 2) xs).length (cutF M false (xs.length + 2) xs)) => joinV_any W A2 _ _ (M : Int) hW (by omega) (by omega) (anyLong_none fun j hj => by
    have := hpm _ (List.getElem_mem hj)
    rw [List.getD_eq_getElem?_getD, List.getElem?_eq_getElem hj]
    simp only [Option.getD_some]
    omega) (by omega) (by rw [hpf]; omega)
  have hj1 := congrArg Prod.fst hjs
  have hj2 := congrArg Prod.snd hjs
  simp only [if_true, List.nil_append] at hj1 hj2
  rw [hj1, hj2] at KJ
  have hpm' : ∀ p ∈ cutF M false (xs.length + 2) xs, p.length ≤ 1000000 := fun p hp => by have := hpm p hp; omega
  generalize cutF M false (xs.length + 2) xs = ps at KC KR KJ hpl hpm' hpf
  clear hjs hj1 hj2 hpe hpm hpf
  have hx2 : ¬ (1500 : Int) < (xs.length : Int) := by omega
  have hma : ¬ (M : Int) < 1 := by omega
  have hmb : ¬ (1024 : Int) < (M : Int) := by omega
  have hmc : ¬ (M : Int) = 0 := by omega
  have hr0 := Lib.hid hr
  clear hr
  replace KC := Lib.hid KC
  replace KR := Lib.hid KR
  replace KJ := Lib.hid KJ
  replace hpm' := Lib.hid hpm'
  replace hpl := Lib.hid hpl
  go_enter Try.func3, Try.ntmps3
  go_wp2_with fail
  refine KC.out.mono ?_
  rintro e w1 ⟨A1, vs, rfl, hcl, hea, hB1⟩
  have hMod := Lib.hid (Mod.of hcl hea hpm'.out)
  have hRd := Lib.hid (each_rds hcl hea (by have := hpl.out; omega) hpm'.out)
  have hvl := hea.1
  rw [hvl]
  replace hvl := Lib.hid hvl
  have hpl2 : ps.length ≤ 1000000 := by have := hpl.out; omega
  clear hcl hea KC
  replace hB1 := Lib.hid hB1
  go_wp2_with fail
  refine (KR.out _ (hr0.out.belowTop hB1.out)).mono ?_
  rintro e w2 ⟨A2, c2, rfl, hd2, hB2⟩
  have KL := Lib.hid (lists_any w2 A1 A2 ps.length c2 ps (hRd.out.belowTop hB2) hd2 hpl2)
  have hMod2 := Lib.hid (hMod.out.below hB2)
  have hRd2 := Lib.hid (hRd.out.belowTop hB2)
  have hBB := Lib.hid (hB1.out.trans (hB2.mono hB1.out.size))
  clear hd2 hB1 hB2 hMod hRd KR q0
  go_wp2_with fail
  refine KL.out.mono ?_
  rintro e w3 ⟨rfl, hB3⟩
  have KJ3 := Lib.hid (KJ.out w3 A1 (hRd2.out.belowTop hB3))
  have hMod3 := Lib.hid (hMod2.out.below hB3)
  have hBC := Lib.hid (hBB.out.trans (hB3.mono hBB.out.size))
  clear hB3 hMod2 hRd2 hBB KL KJ
  go_wp2_with fail
  refine KJ3.out.mono ?_
  rintro e w4 ⟨A3, A4, rfl, hd3, hz4, hB4⟩
  have hMod4 := Lib.hid (hMod3.out.below hB4)
  have hBD := Lib.hid (hBC.out.trans (hB4.mono hBC.out.size))
  clear hB4 hMod3 hBC KJ3
  have q4 := hz4.cv
  clear hd3 hz4
  go_wp2_with fail
  clear q4 hma hmb hmc hl hd hx2
  have hn : vs.length = ps.length := hvl.out
  have hpl3 := hpl.out
  replace hn := Lib.hid hn
  go_loopg [16] ps.length (fun g i wr => ∃ k : Nat, k + g = ps.length ∧ i = .int .i64 k ∧ RowKit.Hid (Mod w.heap.size wr A1 vs) ∧ RowKit.Hid (Below w.heap.size w wr))
  case atStart => exact ⟨0, by omega, rfl, hMod4, hBD⟩
  case round =>
    obtain ⟨k, hkg, rfl, hmo, hb⟩ := hrel
    by_cases hk : k < ps.length
    · have hki : (k : Int) < (ps.length : Int) := by omega
      have hkv : k < vs.length := by have := hn.out; omega
      obtain ⟨Ai, len, he1, he2, _⟩ := hmo.out.each k hkv
      obtain ⟨g, hA, _, hc⟩ := hmo.out.cell hkv
      subst hA
      rw [he1] at hc
      replace he1 := Lib.hid he1
      go_wp2_with fail
      clear hc
      go_loopg [17] len (fun g' j wr => ∃ q : Nat, q + g' = len ∧ j = .int .i64 q ∧ RowKit.Hid (Mod w.heap.size wr (some ⟨g, 0, none⟩) vs) ∧ RowKit.Hid (Below w.heap.size w wr))
      case atStart => exact ⟨0, by omega, rfl, hmo, hb⟩
      case round =>
        obtain ⟨q, hqg, rfl, hmo2, hb2⟩ := hrel
        obtain ⟨Ai2, len2, hf1, _, hf3⟩ := hmo2.out.each k hkv
        rw [he1.out] at hf1
        injection hf1 with hf1
        injection hf1 with hf1 hf2 _
        subst hf1 hf2
        obtain ⟨g2, hA2, _, hc⟩ := hmo2.out.cell hkv
        injection hA2 with hA2
        injection hA2 with hA2 _ _
        subst hA2
        rw [he1.out] at hc
        by_cases hq : q < len
        · obtain ⟨b, off, cs, rfl, hbn, hh, hz⟩ := hf3 (by omega)
          obtain ⟨z, hz⟩ := hz q hq
          have hfr := block_free hh (off + q)
          have hqi : (q : Int) < (len : Int) := by omega
          replace hh := Lib.hid hh
          go_wp2_with fail
          go_roundg (gk - 1)
          case measure => omega
          case rel => exact ⟨q + 1, by omega, by go_num, Lib.hid (hmo2.out.set hh.out _), Lib.hid (hb2.out.setCell (by exact hbn) _)⟩
        · obtain rfl : q = len := by omega
          clear hf3
          go_wp2_with fail
          go_roundg (ps.length - (k + 1))
          case measure => omega
          case rel => exact ⟨k + 1, by omega, by go_num, hmo2, hb2⟩
    · obtain rfl : k = ps.length := by omega
      have q5 := (hr0.out.below hb.out).cv
      go_wp2_with fail
      refine (lives_any _).mono ?_
      rintro e w5 ⟨rfl, hB5⟩
      go_wp2_with fail
      go_ret
      exact ⟨rfl, hb.out.trans (hB5.mono hb.out.size)⟩

set_option maxRecDepth 100000 in
set_option maxHeartbeats 3200000 in
theorem lawCut_zeroed (w : World) (A : Option Addr) (c : Nat) (xs : List UInt8) (M : Nat) (zero : Bool) (hr : Rd w w.heap.size A c xs) (hm1 : 1 ≤ M) (hm2 : M ≤ 1024) (hx : xs.length ≤ 1500) (hl : (0 : Int) < (xs.length : Int)) (hd : (xs.length : Int) % (M : Int) = 0) (hz : zero = true) :
    Calls Try.prog 3 #[.slice A xs.length c, .int .i64 (M : Int), .bool zero] w fun e w' => e = .returned (.bool true) ∧ Below w.heap.size w w' := by
  subst hz
  have q0 := hr.cv
  have KC := cut_any w A c M true xs hm1 hm2 (by omega) hr
  have KR := fun W (hW : Rd W W.heap.size A c xs) => refCut_any W A c xs M true hW hm1 hm2 hx
  have hpe := refF_eq M hm1 true (xs.length + 2) xs (Nat.le_refl _)
  rw [hpe] at KR
  obtain ⟨hpf, hpl, _, hpm⟩ := cut_flat M hm1 true (xs.length + 2) xs (Nat.le_refl _)
  have hjs := jS_all (M : Int) (cutF M true (xs.length + 2) xs)
  rw [cut_fold M hm1 true (xs.length + 2) xs [] [] (Nat.le_refl _), show fullF M true xs.length = false by unfold fullF; simp] at hjs
  have KJ := fun W A2 (hW : Rds W W.heap.size A2 (cutF M true (xs.length + 2) xs).length (cutF M true (xs.length + 2) xs)) => joinV_any W A2 _ _ (M : Int) hW (by omega) (by omega) (anyLong_none fun j hj => by
    have := hpm _ (List.getElem_mem hj)
    rw [List.getD_eq_getElem?_getD, List.getElem?_eq_getElem hj]
    simp only [Option.getD_some]
    omega) (by omega) (by rw [hpf]; omega)
  have hj1 := congrArg Prod.fst hjs
  have hj2 := congrArg Prod.snd hjs
  simp only [if_false, Bool.false_eq_true, List.nil_append] at hj1 hj2
  rw [hj1, hj2] at KJ
  have hpm' : ∀ p ∈ cutF M true (xs.length + 2) xs, p.length ≤ 1000000 := fun p hp => by have := hpm p hp; omega
  generalize cutF M true (xs.length + 2) xs = ps at KC KR KJ hpl hpm' hpf
  clear hjs hj1 hj2 hpe hpm hpf
  have hx2 : ¬ (1500 : Int) < (xs.length : Int) := by omega
  have hma : ¬ (M : Int) < 1 := by omega
  have hmb : ¬ (1024 : Int) < (M : Int) := by omega
  have hmc : ¬ (M : Int) = 0 := by omega
  have hr0 := Lib.hid hr
  clear hr
  replace KC := Lib.hid KC
  replace KR := Lib.hid KR
  replace KJ := Lib.hid KJ
  replace hpm' := Lib.hid hpm'
  replace hpl := Lib.hid hpl
  go_enter Try.func3, Try.ntmps3
  go_wp2_with fail
  refine KC.out.mono ?_
  rintro e w1 ⟨A1, vs, rfl, hcl, hea, hB1⟩
  have hMod := Lib.hid (Mod.of hcl hea hpm'.out)
  have hRd := Lib.hid (each_rds hcl hea (by have := hpl.out; omega) hpm'.out)
  have hvl := hea.1
  rw [hvl]
  replace hvl := Lib.hid hvl
  have hpl2 : ps.length ≤ 1000000 := by have := hpl.out; omega
  clear hcl hea KC
  replace hB1 := Lib.hid hB1
  go_wp2_with fail
  refine (KR.out _ (hr0.out.belowTop hB1.out)).mono ?_
  rintro e w2 ⟨A2, c2, rfl, hd2, hB2⟩
  have KL := Lib.hid (lists_any w2 A1 A2 ps.length c2 ps (hRd.out.belowTop hB2) hd2 hpl2)
  have hMod2 := Lib.hid (hMod.out.below hB2)
  have hRd2 := Lib.hid (hRd.out.belowTop hB2)
  have hBB := Lib.hid (hB1.out.trans (hB2.mono hB1.out.size))
  clear hd2 hB1 hB2 hMod hRd KR q0
  go_wp2_with fail
  refine KL.out.mono ?_
  rintro e w3 ⟨rfl, hB3⟩
  have KJ3 := Lib.hid (KJ.out w3 A1 (hRd2.out.belowTop hB3))
  have hMod3 := Lib.hid (hMod2.out.below hB3)
  have hBC := Lib.hid (hBB.out.trans (hB3.mono hBB.out.size))
  clear hB3 hMod2 hRd2 hBB KL KJ
  go_wp2_with fail
  refine KJ3.out.mono ?_
  rintro e w4 ⟨A3, A4, rfl, hd3, hz4, hB4⟩
  have hMod4 := Lib.hid (hMod3.out.below hB4)
  have hBD := Lib.hid (hBC.out.trans (hB4.mono hBC.out.size))
  clear hB4 hMod3 hBC KJ3
  obtain ⟨b9, o9, A9, c9, rfl, hb9, hc9, hr9⟩ := hd3.at_ (k := 0) (by simp)
  rw [Nat.add_zero] at hc9
  have hg9 : ([xs] : List (List UInt8)).getD 0 [] = xs := rfl
  rw [hg9] at hc9 hr9
  have q4 := hr9.cv
  clear hd3 hz4 hr9
  go_wp2_with fail
  clear q4 hma hmb hmc hl hd hx2
  have hn : vs.length = ps.length := hvl.out
  have hpl3 := hpl.out
  replace hn := Lib.hid hn
  go_loopg [16] ps.length (fun g i wr => ∃ k : Nat, k + g = ps.length ∧ i = .int .i64 k ∧ RowKit.Hid (Mod w.heap.size wr A1 vs) ∧ RowKit.Hid (Below w.heap.size w wr))
  case atStart => exact ⟨0, by omega, rfl, hMod4, hBD⟩
  case round =>
    obtain ⟨k, hkg, rfl, hmo, hb⟩ := hrel
    by_cases hk : k < ps.length
    · have hki : (k : Int) < (ps.length : Int) := by omega
      have hkv : k < vs.length := by have := hn.out; omega
      obtain ⟨Ai, len, he1, he2, _⟩ := hmo.out.each k hkv
      obtain ⟨g, hA, _, hc⟩ := hmo.out.cell hkv
      subst hA
      rw [he1] at hc
      replace he1 := Lib.hid he1
      go_wp2_with fail
      clear hc
      go_loopg [17] len (fun g' j wr => ∃ q : Nat, q + g' = len ∧ j = .int .i64 q ∧ RowKit.Hid (Mod w.heap.size wr (some ⟨g, 0, none⟩) vs) ∧ RowKit.Hid (Below w.heap.size w wr))
      case atStart => exact ⟨0, by omega, rfl, hmo, hb⟩
      case round =>
        obtain ⟨q, hqg, rfl, hmo2, hb2⟩ := hrel
        obtain ⟨Ai2, len2, hf1, _, hf3⟩ := hmo2.out.each k hkv
        rw [he1.out] at hf1
        injection hf1 with hf1
        injection hf1 with hf1 hf2 _
        subst hf1 hf2
        obtain ⟨g2, hA2, _, hc⟩ := hmo2.out.cell hkv
        injection hA2 with hA2
        injection hA2 with hA2 _ _
        subst hA2
        rw [he1.out] at hc
        by_cases hq : q < len
        · obtain ⟨b, off, cs, rfl, hbn, hh, hz⟩ := hf3 (by omega)
          obtain ⟨z, hz⟩ := hz q hq
          have hfr := block_free hh (off + q)
          have hqi : (q : Int) < (len : Int) := by omega
          replace hh := Lib.hid hh
          go_wp2_with fail
          go_roundg (gk - 1)
          case measure => omega
          case rel => exact ⟨q + 1, by omega, by go_num, Lib.hid (hmo2.out.set hh.out _), Lib.hid (hb2.out.setCell (by exact hbn) _)⟩
        · obtain rfl : q = len := by omega
          clear hf3
          go_wp2_with fail
          go_roundg (ps.length - (k + 1))
          case measure => omega
          case rel => exact ⟨k + 1, by omega, by go_num, hmo2, hb2⟩
    · obtain rfl : k = ps.length := by omega
      have q5 := (hr0.out.below hb.out).cv
      go_wp2_with fail
      refine (lives_any _).mono ?_
      rintro e w5 ⟨rfl, hB5⟩
      go_wp2_with fail
      go_ret
      exact ⟨rfl, hb.out.trans (hB5.mono hb.out.size)⟩

set_option maxRecDepth 100000 in
set_option maxHeartbeats 3200000 in
theorem lawCut_short (w : World) (A : Option Addr) (c : Nat) (xs : List UInt8) (M : Nat) (zero : Bool) (hr : Rd w w.heap.size A c xs) (hm1 : 1 ≤ M) (hm2 : M ≤ 1024) (hx : xs.length ≤ 1500) (hl : (0 : Int) < (xs.length : Int)) (hd : ¬ (xs.length : Int) % (M : Int) = 0) :
    Calls Try.prog 3 #[.slice A xs.length c, .int .i64 (M : Int), .bool zero] w fun e w' => e = .returned (.bool true) ∧ Below w.heap.size w w' := by
  skip
  have q0 := hr.cv
  have KC := cut_any w A c M zero xs hm1 hm2 (by omega) hr
  have KR := fun W (hW : Rd W W.heap.size A c xs) => refCut_any W A c xs M zero hW hm1 hm2 hx
  have hpe := refF_eq M hm1 zero (xs.length + 2) xs (Nat.le_refl _)
  rw [hpe] at KR
  obtain ⟨hpf, hpl, _, hpm⟩ := cut_flat M hm1 zero (xs.length + 2) xs (Nat.le_refl _)
  have hjs := jS_all (M : Int) (cutF M zero (xs.length + 2) xs)
  rw [cut_fold M hm1 zero (xs.length + 2) xs [] [] (Nat.le_refl _), show fullF M zero xs.length = false by unfold fullF; rw [decide_eq_false (show ¬ xs.length % M = 0 by omega)]; simp] at hjs
  have KJ := fun W A2 (hW : Rds W W.heap.size A2 (cutF M zero (xs.length + 2) xs).length (cutF M zero (xs.length + 2) xs)) => joinV_any W A2 _ _ (M : Int) hW (by omega) (by omega) (anyLong_none fun j hj => by
    have := hpm _ (List.getElem_mem hj)
    rw [List.getD_eq_getElem?_getD, List.getElem?_eq_getElem hj]
    simp only [Option.getD_some]
    omega) (by omega) (by rw [hpf]; omega)
  have hj1 := congrArg Prod.fst hjs
  have hj2 := congrArg Prod.snd hjs
  simp only [if_false, Bool.false_eq_true, List.nil_append] at hj1 hj2
  rw [hj1, hj2] at KJ
  have hpm' : ∀ p ∈ cutF M zero (xs.length + 2) xs, p.length ≤ 1000000 := fun p hp => by have := hpm p hp; omega
  generalize cutF M zero (xs.length + 2) xs = ps at KC KR KJ hpl hpm' hpf
  clear hjs hj1 hj2 hpe hpm hpf
  have hx2 : ¬ (1500 : Int) < (xs.length : Int) := by omega
  have hma : ¬ (M : Int) < 1 := by omega
  have hmb : ¬ (1024 : Int) < (M : Int) := by omega
  have hmc : ¬ (M : Int) = 0 := by omega
  have hr0 := Lib.hid hr
  clear hr
  replace KC := Lib.hid KC
  replace KR := Lib.hid KR
  replace KJ := Lib.hid KJ
  replace hpm' := Lib.hid hpm'
  replace hpl := Lib.hid hpl
  go_enter Try.func3, Try.ntmps3
  go_wp2_with fail
  refine KC.out.mono ?_
  rintro e w1 ⟨A1, vs, rfl, hcl, hea, hB1⟩
  have hMod := Lib.hid (Mod.of hcl hea hpm'.out)
  have hRd := Lib.hid (each_rds hcl hea (by have := hpl.out; omega) hpm'.out)
  have hvl := hea.1
  rw [hvl]
  replace hvl := Lib.hid hvl
  have hpl2 : ps.length ≤ 1000000 := by have := hpl.out; omega
  clear hcl hea KC
  replace hB1 := Lib.hid hB1
  go_wp2_with fail
  refine (KR.out _ (hr0.out.belowTop hB1.out)).mono ?_
  rintro e w2 ⟨A2, c2, rfl, hd2, hB2⟩
  have KL := Lib.hid (lists_any w2 A1 A2 ps.length c2 ps (hRd.out.belowTop hB2) hd2 hpl2)
  have hMod2 := Lib.hid (hMod.out.below hB2)
  have hRd2 := Lib.hid (hRd.out.belowTop hB2)
  have hBB := Lib.hid (hB1.out.trans (hB2.mono hB1.out.size))
  clear hd2 hB1 hB2 hMod hRd KR q0
  go_wp2_with fail
  refine KL.out.mono ?_
  rintro e w3 ⟨rfl, hB3⟩
  have KJ3 := Lib.hid (KJ.out w3 A1 (hRd2.out.belowTop hB3))
  have hMod3 := Lib.hid (hMod2.out.below hB3)
  have hBC := Lib.hid (hBB.out.trans (hB3.mono hBB.out.size))
  clear hB3 hMod2 hRd2 hBB KL KJ
  go_wp2_with fail
  refine KJ3.out.mono ?_
  rintro e w4 ⟨A3, A4, rfl, hd3, hz4, hB4⟩
  have hMod4 := Lib.hid (hMod3.out.below hB4)
  have hBD := Lib.hid (hBC.out.trans (hB4.mono hBC.out.size))
  clear hB4 hMod3 hBC KJ3
  obtain ⟨b9, o9, A9, c9, rfl, hb9, hc9, hr9⟩ := hd3.at_ (k := 0) (by simp)
  rw [Nat.add_zero] at hc9
  have hg9 : ([xs] : List (List UInt8)).getD 0 [] = xs := rfl
  rw [hg9] at hc9 hr9
  have q4 := hr9.cv
  clear hd3 hz4 hr9
  go_wp2_with fail
  clear q4 hma hmb hmc hl hd hx2
  have hn : vs.length = ps.length := hvl.out
  have hpl3 := hpl.out
  replace hn := Lib.hid hn
  go_loopg [16] ps.length (fun g i wr => ∃ k : Nat, k + g = ps.length ∧ i = .int .i64 k ∧ RowKit.Hid (Mod w.heap.size wr A1 vs) ∧ RowKit.Hid (Below w.heap.size w wr))
  case atStart => exact ⟨0, by omega, rfl, hMod4, hBD⟩
  case round =>
    obtain ⟨k, hkg, rfl, hmo, hb⟩ := hrel
    by_cases hk : k < ps.length
    · have hki : (k : Int) < (ps.length : Int) := by omega
      have hkv : k < vs.length := by have := hn.out; omega
      obtain ⟨Ai, len, he1, he2, _⟩ := hmo.out.each k hkv
      obtain ⟨g, hA, _, hc⟩ := hmo.out.cell hkv
      subst hA
      rw [he1] at hc
      replace he1 := Lib.hid he1
      go_wp2_with fail
      clear hc
      go_loopg [17] len (fun g' j wr => ∃ q : Nat, q + g' = len ∧ j = .int .i64 q ∧ RowKit.Hid (Mod w.heap.size wr (some ⟨g, 0, none⟩) vs) ∧ RowKit.Hid (Below w.heap.size w wr))
      case atStart => exact ⟨0, by omega, rfl, hmo, hb⟩
      case round =>
        obtain ⟨q, hqg, rfl, hmo2, hb2⟩ := hrel
        obtain ⟨Ai2, len2, hf1, _, hf3⟩ := hmo2.out.each k hkv
        rw [he1.out] at hf1
        injection hf1 with hf1
        injection hf1 with hf1 hf2 _
        subst hf1 hf2
        obtain ⟨g2, hA2, _, hc⟩ := hmo2.out.cell hkv
        injection hA2 with hA2
        injection hA2 with hA2 _ _
        subst hA2
        rw [he1.out] at hc
        by_cases hq : q < len
        · obtain ⟨b, off, cs, rfl, hbn, hh, hz⟩ := hf3 (by omega)
          obtain ⟨z, hz⟩ := hz q hq
          have hfr := block_free hh (off + q)
          have hqi : (q : Int) < (len : Int) := by omega
          replace hh := Lib.hid hh
          go_wp2_with fail
          go_roundg (gk - 1)
          case measure => omega
          case rel => exact ⟨q + 1, by omega, by go_num, Lib.hid (hmo2.out.set hh.out _), Lib.hid (hb2.out.setCell (by exact hbn) _)⟩
        · obtain rfl : q = len := by omega
          clear hf3
          go_wp2_with fail
          go_roundg (ps.length - (k + 1))
          case measure => omega
          case rel => exact ⟨k + 1, by omega, by go_num, hmo2, hb2⟩
    · obtain rfl : k = ps.length := by omega
      have q5 := (hr0.out.below hb.out).cv
      go_wp2_with fail
      refine (lives_any _).mono ?_
      rintro e w5 ⟨rfl, hB5⟩
      go_wp2_with fail
      go_ret
      exact ⟨rfl, hb.out.trans (hB5.mono hb.out.size)⟩

set_option maxRecDepth 100000 in
set_option maxHeartbeats 3200000 in
theorem lawCut_none (w : World) (A : Option Addr) (c : Nat) (xs : List UInt8) (M : Nat) (zero : Bool) (hr : Rd w w.heap.size A c xs) (hm1 : 1 ≤ M) (hm2 : M ≤ 1024) (hx : xs.length ≤ 1500) (hl : ¬ (0 : Int) < (xs.length : Int)) :
    Calls Try.prog 3 #[.slice A xs.length c, .int .i64 (M : Int), .bool zero] w fun e w' => e = .returned (.bool true) ∧ Below w.heap.size w w' := by
  skip
  have q0 := hr.cv
  have KC := cut_any w A c M zero xs hm1 hm2 (by omega) hr
  have KR := fun W (hW : Rd W W.heap.size A c xs) => refCut_any W A c xs M zero hW hm1 hm2 hx
  have hpe := refF_eq M hm1 zero (xs.length + 2) xs (Nat.le_refl _)
  rw [hpe] at KR
  obtain ⟨hpf, hpl, _, hpm⟩ := cut_flat M hm1 zero (xs.length + 2) xs (Nat.le_refl _)
  have hjs := jS_all (M : Int) (cutF M zero (xs.length + 2) xs)
  rw [cut_fold M hm1 zero (xs.length + 2) xs [] [] (Nat.le_refl _), show fullF M zero xs.length = false by unfold fullF; rw [decide_eq_false (show ¬ 0 < xs.length by omega)]; simp] at hjs
  have KJ := fun W A2 (hW : Rds W W.heap.size A2 (cutF M zero (xs.length + 2) xs).length (cutF M zero (xs.length + 2) xs)) => joinV_any W A2 _ _ (M : Int) hW (by omega) (by omega) (anyLong_none fun j hj => by
    have := hpm _ (List.getElem_mem hj)
    rw [List.getD_eq_getElem?_getD, List.getElem?_eq_getElem hj]
    simp only [Option.getD_some]
    omega) (by omega) (by rw [hpf]; omega)
  have hj1 := congrArg Prod.fst hjs
  have hj2 := congrArg Prod.snd hjs
  simp only [if_false, Bool.false_eq_true, List.nil_append] at hj1 hj2
  rw [hj1, hj2] at KJ
  have hpm' : ∀ p ∈ cutF M zero (xs.length + 2) xs, p.length ≤ 1000000 := fun p hp => by have := hpm p hp; omega
  generalize cutF M zero (xs.length + 2) xs = ps at KC KR KJ hpl hpm' hpf
  clear hjs hj1 hj2 hpe hpm hpf
  have hx2 : ¬ (1500 : Int) < (xs.length : Int) := by omega
  have hma : ¬ (M : Int) < 1 := by omega
  have hmb : ¬ (1024 : Int) < (M : Int) := by omega
  have hmc : ¬ (M : Int) = 0 := by omega
  have hr0 := Lib.hid hr
  clear hr
  replace KC := Lib.hid KC
  replace KR := Lib.hid KR
  replace KJ := Lib.hid KJ
  replace hpm' := Lib.hid hpm'
  replace hpl := Lib.hid hpl
  go_enter Try.func3, Try.ntmps3
  go_wp2_with fail
  refine KC.out.mono ?_
  rintro e w1 ⟨A1, vs, rfl, hcl, hea, hB1⟩
  have hMod := Lib.hid (Mod.of hcl hea hpm'.out)
  have hRd := Lib.hid (each_rds hcl hea (by have := hpl.out; omega) hpm'.out)
  have hvl := hea.1
  rw [hvl]
  replace hvl := Lib.hid hvl
  have hpl2 : ps.length ≤ 1000000 := by have := hpl.out; omega
  clear hcl hea KC
  replace hB1 := Lib.hid hB1
  go_wp2_with fail
  refine (KR.out _ (hr0.out.belowTop hB1.out)).mono ?_
  rintro e w2 ⟨A2, c2, rfl, hd2, hB2⟩
  have KL := Lib.hid (lists_any w2 A1 A2 ps.length c2 ps (hRd.out.belowTop hB2) hd2 hpl2)
  have hMod2 := Lib.hid (hMod.out.below hB2)
  have hRd2 := Lib.hid (hRd.out.belowTop hB2)
  have hBB := Lib.hid (hB1.out.trans (hB2.mono hB1.out.size))
  clear hd2 hB1 hB2 hMod hRd KR q0
  go_wp2_with fail
  refine KL.out.mono ?_
  rintro e w3 ⟨rfl, hB3⟩
  have KJ3 := Lib.hid (KJ.out w3 A1 (hRd2.out.belowTop hB3))
  have hMod3 := Lib.hid (hMod2.out.below hB3)
  have hBC := Lib.hid (hBB.out.trans (hB3.mono hBB.out.size))
  clear hB3 hMod2 hRd2 hBB KL KJ
  go_wp2_with fail
  refine KJ3.out.mono ?_
  rintro e w4 ⟨A3, A4, rfl, hd3, hz4, hB4⟩
  have hMod4 := Lib.hid (hMod3.out.below hB4)
  have hBD := Lib.hid (hBC.out.trans (hB4.mono hBC.out.size))
  clear hB4 hMod3 hBC KJ3
  obtain ⟨b9, o9, A9, c9, rfl, hb9, hc9, hr9⟩ := hd3.at_ (k := 0) (by simp)
  rw [Nat.add_zero] at hc9
  have hg9 : ([xs] : List (List UInt8)).getD 0 [] = xs := rfl
  rw [hg9] at hc9 hr9
  have q4 := hr9.cv
  clear hd3 hz4 hr9
  go_wp2_with fail
  clear q4 hma hmb hmc hl hx2
  have hn : vs.length = ps.length := hvl.out
  have hpl3 := hpl.out
  replace hn := Lib.hid hn
  go_loopg [16] ps.length (fun g i wr => ∃ k : Nat, k + g = ps.length ∧ i = .int .i64 k ∧ RowKit.Hid (Mod w.heap.size wr A1 vs) ∧ RowKit.Hid (Below w.heap.size w wr))
  case atStart => exact ⟨0, by omega, rfl, hMod4, hBD⟩
  case round =>
    obtain ⟨k, hkg, rfl, hmo, hb⟩ := hrel
    by_cases hk : k < ps.length
    · have hki : (k : Int) < (ps.length : Int) := by omega
      have hkv : k < vs.length := by have := hn.out; omega
      obtain ⟨Ai, len, he1, he2, _⟩ := hmo.out.each k hkv
      obtain ⟨g, hA, _, hc⟩ := hmo.out.cell hkv
      subst hA
      rw [he1] at hc
      replace he1 := Lib.hid he1
      go_wp2_with fail
      clear hc
      go_loopg [17] len (fun g' j wr => ∃ q : Nat, q + g' = len ∧ j = .int .i64 q ∧ RowKit.Hid (Mod w.heap.size wr (some ⟨g, 0, none⟩) vs) ∧ RowKit.Hid (Below w.heap.size w wr))
      case atStart => exact ⟨0, by omega, rfl, hmo, hb⟩
      case round =>
        obtain ⟨q, hqg, rfl, hmo2, hb2⟩ := hrel
        obtain ⟨Ai2, len2, hf1, _, hf3⟩ := hmo2.out.each k hkv
        rw [he1.out] at hf1
        injection hf1 with hf1
        injection hf1 with hf1 hf2 _
        subst hf1 hf2
        obtain ⟨g2, hA2, _, hc⟩ := hmo2.out.cell hkv
        injection hA2 with hA2
        injection hA2 with hA2 _ _
        subst hA2
        rw [he1.out] at hc
        by_cases hq : q < len
        · obtain ⟨b, off, cs, rfl, hbn, hh, hz⟩ := hf3 (by omega)
          obtain ⟨z, hz⟩ := hz q hq
          have hfr := block_free hh (off + q)
          have hqi : (q : Int) < (len : Int) := by omega
          replace hh := Lib.hid hh
          go_wp2_with fail
          go_roundg (gk - 1)
          case measure => omega
          case rel => exact ⟨q + 1, by omega, by go_num, Lib.hid (hmo2.out.set hh.out _), Lib.hid (hb2.out.setCell (by exact hbn) _)⟩
        · obtain rfl : q = len := by omega
          clear hf3
          go_wp2_with fail
          go_roundg (ps.length - (k + 1))
          case measure => omega
          case rel => exact ⟨k + 1, by omega, by go_num, hmo2, hb2⟩
    · obtain rfl : k = ps.length := by omega
      have q5 := (hr0.out.below hb.out).cv
      go_wp2_with fail
      refine (lives_any _).mono ?_
      rintro e w5 ⟨rfl, hB5⟩
      go_wp2_with fail
      go_ret
      exact ⟨rfl, hb.out.trans (hB5.mono hb.out.size)⟩

set_option maxHeartbeats 1600000 in
theorem lawCut_big (w : World) (A : Option Addr) (c : Nat) (xs : List UInt8) (max : Int) (zero : Bool) (hx : (1500 : Int) < (xs.length : Int)) :
    Calls Try.prog 3 #[.slice A xs.length c, .int .i64 max, .bool zero] w fun e w' => e = .returned (.bool true) ∧ Below w.heap.size w w' := by
  go_enter Try.func3, Try.ntmps3
  go_wp2_with fail
  go_ret
  exact ⟨rfl, Below.refl _ _⟩

theorem lawCut_any (w : World) (A : Option Addr) (c : Nat) (xs : List UInt8) (max : Int) (zero : Bool) (hr : Rd w w.heap.size A c xs) :
    Calls Try.prog 3 #[.slice A xs.length c, .int .i64 max, .bool zero] w fun e w' => e = .returned (.bool true) ∧ Below w.heap.size w w' := by
  by_cases hm : 1 ≤ max ∧ max ≤ 1024
  · by_cases hx : (1500 : Int) < (xs.length : Int)
    · exact lawCut_big w A c xs max zero hx
    · obtain ⟨M, rfl⟩ := Int.eq_ofNat_of_zero_le (show 0 ≤ max by omega)
      have h1 : 1 ≤ M := by omega
      have h2 : M ≤ 1024 := by omega
      have h3 : xs.length ≤ 1500 := by omega
      by_cases hl : (0 : Int) < (xs.length : Int)
      · by_cases hd : (xs.length : Int) % (M : Int) = 0
        · cases zero with
          | false => exact lawCut_full w A c xs M false hr h1 h2 h3 hl hd rfl
          | true => exact lawCut_zeroed w A c xs M true hr h1 h2 h3 hl hd rfl
        · exact lawCut_short w A c xs M zero hr h1 h2 h3 hl hd
      · exact lawCut_none w A c xs M zero hr h1 h2 h3 hl
  · exact lawCut_no w A c xs max zero hr hm

end Go.Proofs.Ytfaocndelibadaa
