/-
  Helper text: the walk of the reference's Cut; no statement is proved here.
-/
import Derived.Test.YtfaocndelibadaaJoV
namespace Go.Proofs.Ytfaocndelibadaa
open Go Go.RowKit

theorem Rd.part {w : World} {B : Nat} {A : Option Addr} {c : Nat} {xs : List UInt8} (h : Rd w B A c xs) {f k : Nat} (hf : f ≤ k) (hk : k ≤ xs.length) :
    ∃ A' c', sliced A f k c 1 = .slice A' ((xs.take k).drop f).length c' ∧ Rd w B A' c' ((xs.take k).drop f) ∧ (∀ ad, A' = some ad → ∃ ad0, A = some ad0 ∧ ad.block = ad0.block) := by
  have hle := h.le
  have hcap := h.cap
  have hl : ((xs.take k).drop f).length = k - f := by rw [List.length_drop, List.length_take]; omega
  refine ⟨if c = f then A else A.map (·.add f), c - f, by rw [hl]; simp [sliced], ⟨by rw [hl]; omega, by omega, fun hn => ?_⟩, fun ad e => ?_⟩
  · rw [hl] at hn
    obtain ⟨b, off, rfl, hb, hc⟩ := h.cells (by omega)
    rw [if_neg (by omega)]
    refine ⟨b, off + f, by simp [Go.WideShapes.add_plain], hb, fun j hj => ?_⟩
    rw [hl] at hj
    have := hc (f + j) (by omega)
    rw [← Nat.add_assoc] at this
    rw [this]
    simp [List.getD, List.getElem?_drop, show f + j < k by omega]
  · cases A with
    | none => simp at e
    | some a0 =>
      refine ⟨a0, rfl, ?_⟩
      split at e
      · simp at e; rw [e]
      · simp at e; subst e; unfold Addr.add; split <;> rfl

theorem many_le {M n i : Nat} (hm : 1 ≤ M) (hi : i < manyF M n) : (i + 1) * M ≤ n + M ∧ i * M ≤ n := by
  have h1 : (i + 1) * M ≤ n + M := by
    unfold manyF at hi
    split at hi
    · obtain rfl : i = 0 := by omega
      omega
    · have h2 : (i + 1) * M ≤ ((n + M - 1) / M) * M := Nat.mul_le_mul_right M (by omega)
      have h3 := Nat.div_mul_le_self (n + M - 1) M
      omega
  refine ⟨h1, ?_⟩
  rw [Nat.succ_mul] at h1
  omega
theorem many_int {M n : Nat} (hm : 1 ≤ M) (hn : ¬ (n : Int) = 0) : ((n : Int) + M - 1) / M = ((manyF M n : Nat) : Int) := by
  rw [manyF, if_neg (by omega), Int.natCast_ediv]
  congr 1
  omega
theorem range_snoc {α : Type} (g : Nat → α) (k : Nat) : (List.range (k + 1)).map g = (List.range k).map g ++ [g k] := by
  rw [List.range_succ, List.map_append]; rfl

set_option maxRecDepth 100000 in
set_option maxHeartbeats 1600000 in
theorem refCut_any (w : World) (A : Option Addr) (c : Nat) (xs : List UInt8) (M : Nat) (zero : Bool) (hr : Rd w w.heap.size A c xs) (hm1 : 1 ≤ M) (hm2 : M ≤ 1024) (hn : xs.length ≤ 1500) :
    Calls Try.prog 10 #[.slice A xs.length c, .int .i64 (M : Int), .bool zero] w fun e w' => ∃ A1 c1, e = .returned (.slice A1 (refF M zero xs).length c1) ∧ Rds w' w'.heap.size A1 c1 (refF M zero xs) ∧ Below w.heap.size w w' := by
  have hr0 := Lib.hid hr
  clear hr
  have hM0 : ¬ (M : Int) = 0 := by omega
  by_cases h0 : (xs.length : Int) = 0
  · have hN : manyF M xs.length = 1 := by rw [manyF, if_pos (by omega)]
    have hz0 : ((xs.length : Int) == 0) = true := by simpa using h0
    replace h0 := Lib.hid h0
    go_enter Try.func10, Try.ntmps10
    go_wp2_with fail
    try rw [hz0]
    try clear hz0
    generalize ((xs.length : Int) + (M : Int) - 1) / (M : Int) = q17
    have hbd := Lib.hid (fun i (hi : i < 1) => many_le (n := xs.length) (i := i) hm1 (by rw [hN]; exact hi))
    replace hN := Lib.hid hN
    go_loopg [8, 9] 1 (fun g v i wr => ∃ k : Nat, k + g = 1 ∧ i = .int .i64 k ∧ Pk wr w.heap.size 22 v ((List.range k).map (partF M xs)) ∧ Below w.heap.size w wr)
    case atStart => exact ⟨0, by omega, rfl, Pk.nil _ _ _, Below.refl _ _⟩
    case round =>
      obtain ⟨k, hkg, rfl, hpk, hb⟩ := hrel
      have hrr := hr0.out.belowTop hb
      by_cases hk : k < 1
      · have hki : (k : Int) < 1 := by omega
        obtain ⟨hb1, hb2⟩ := hbd.out k hk
        rw [Nat.succ_mul] at hb1
        have hpf : partF M xs k = (xs.drop (k * M)).take M := rfl
        have hz : ((k : Int) + 1) * (M : Int) = (k : Int) * M + M := by rw [Int.add_mul, Int.one_mul]
        have hza : (k : Int) * (M : Int) = ((k * M : Nat) : Int) := by omega
        rw [hza] at hz
        generalize k * M = a at hb1 hb2 hpf hz hza
        have hsn := range_snoc (partF M xs) k
        rw [hpf] at hsn
        have hdl : ((List.range k).map (partF M xs)).length ≤ 3000 := by rw [List.length_map, List.length_range]; omega
        generalize (List.range k).map (partF M xs) = d at hpk hsn hdl
        obtain ⟨Av, cv, rfl⟩ := hpk.shape
        replace hsn := Lib.hid hsn
        replace hpf := Lib.hid hpf
        replace hpk := Lib.hid hpk
        replace hrr := Lib.hid hrr
        have hle := hr0.out.le
        have Hlt := Lib.hid hpk.out.lt
        by_cases hgt : (xs.length : Int) < (a : Int) + M
        · have hst : ((xs.take (xs.length)).drop a) = (xs.drop a).take M := by rw [List.take_length, List.take_of_length_le (by rw [List.length_drop]; omega)]
          obtain ⟨A2, c2, hsl, hr2, had⟩ := hrr.out.part (f := a) (k := xs.length) (by omega) (by omega)
          rw [hst] at hsl hr2
          rw [← hpf.out] at hsl hr2
          have hyl : (partF M xs k).length ≤ 1024 := by rw [hpf.out, List.length_take]; omega
          rw [← hpf.out] at hsn
          generalize partF M xs k = ys at hsl hr2 hsn hyl
          obtain ⟨g1, g2, g3⟩ : (if c = a then A else Option.map (fun x => x.add a) A) = A2 ∧ xs.length - a = ys.length ∧ c - a = c2 := by simpa [sliced] using hsl
          have hne : 0 < ys.length → ∀ ad, A2 = some ad → some ad.block ≠ (Value.slice Av d.length cv).ownBlock := fun _ ad e e2 => by
            obtain ⟨ad0, e3, e4⟩ := had ad e
            obtain ⟨b0, o0, e5, e6, _⟩ := hr0.out.cells (by omega)
            rw [e3] at e5
            obtain rfl := Option.some.inj e5
            have h1 := (Hlt.out ad.block e2.symm).1
            have h2 : ad.block = b0 := e4
            omega
          replace hne := Lib.hid hne
          go_wp2_with (at_builtin; refine wpl_appendPk Try.underlying23 Try.info22 rfl (.tmp 36) (.tmp 43) rfl w.heap.size _ d rfl hpk.out A2 c2 ys hr2 hne.out rfl (by omega) hb.size ?_; intro v2 w2 hpk2 hb2)
          go_roundg (gk - 1)
          case measure => omega
          case rel => exact ⟨k + 1, by omega, by go_num, by rw [hsn.out]; exact hpk2, hb.trans hb2⟩
        · have hst : ((xs.take (a + M)).drop a) = (xs.drop a).take M := by rw [List.drop_take]; congr 1; omega
          obtain ⟨A2, c2, hsl, hr2, had⟩ := hrr.out.part (f := a) (k := a + M) (by omega) (by omega)
          rw [hst] at hsl hr2
          rw [← hpf.out] at hsl hr2
          have hyl : (partF M xs k).length ≤ 1024 := by rw [hpf.out, List.length_take]; omega
          rw [← hpf.out] at hsn
          generalize partF M xs k = ys at hsl hr2 hsn hyl
          obtain ⟨g1, g2, g3⟩ : (if c = a then A else Option.map (fun x => x.add a) A) = A2 ∧ a + M - a = ys.length ∧ c - a = c2 := by simpa [sliced] using hsl
          have hne : 0 < ys.length → ∀ ad, A2 = some ad → some ad.block ≠ (Value.slice Av d.length cv).ownBlock := fun _ ad e e2 => by
            obtain ⟨ad0, e3, e4⟩ := had ad e
            obtain ⟨b0, o0, e5, e6, _⟩ := hr0.out.cells (by omega)
            rw [e3] at e5
            obtain rfl := Option.some.inj e5
            have h1 := (Hlt.out ad.block e2.symm).1
            have h2 : ad.block = b0 := e4
            omega
          replace hne := Lib.hid hne
          go_wp2_with (at_builtin; refine wpl_appendPk Try.underlying23 Try.info22 rfl (.tmp 36) (.tmp 43) rfl w.heap.size _ d rfl hpk.out A2 c2 ys hr2 hne.out rfl (by omega) hb.size ?_; intro v2 w2 hpk2 hb2)
          go_roundg (gk - 1)
          case measure => omega
          case rel => exact ⟨k + 1, by omega, by go_num, by rw [hsn.out]; exact hpk2, hb.trans hb2⟩
      · obtain rfl : k = 1 := by omega
        obtain ⟨Av2, cv2, hpe, hpr⟩ := hpk.rds
        subst hpe
        have e6 : refF M zero xs = (List.range 1).map (partF M xs) := by
          rw [refF, hN.out, if_neg (by simp only [Bool.and_eq_true, decide_eq_true_eq]; have := h0.out; omega)]
          simp
        generalize (List.range 1).map (partF M xs) = d at hpr hpk e6 ⊢
        replace e6 := Lib.hid e6
        have hl2 : ¬ (0 : Int) < (xs.length : Int) := by have := h0.out; omega
        cases zero with
        | true =>
          go_wp2_with fail
          go_ret
          rw [e6.out]
          exact ⟨_, _, rfl, hpr, hb⟩
        | false =>
          go_wp2_with fail
          go_ret
          rw [e6.out]
          exact ⟨_, _, rfl, hpr, hb⟩
  · have hmn := many_int hm1 h0
    go_enter Try.func10, Try.ntmps10
    go_wp2_with fail
    rw [hmn, show ((xs.length : Int) == 0) = false by simpa using h0]
    clear h0
    generalize hN : manyF M xs.length = N at *
    clear hmn
    have hN2 : N ≤ 3000 := by rw [← hN]; unfold manyF; split; omega; exact Nat.le_trans (Nat.div_le_self _ _) (by omega)
    have hbd := Lib.hid (fun i (hi : i < N) => many_le (n := xs.length) (i := i) hm1 (by rw [hN]; exact hi))
    replace hN := Lib.hid hN
    go_loopg [8, 9] N (fun g v i wr => ∃ k : Nat, k + g = N ∧ i = .int .i64 k ∧ Pk wr w.heap.size 22 v ((List.range k).map (partF M xs)) ∧ Below w.heap.size w wr)
    case atStart => exact ⟨0, by omega, rfl, Pk.nil _ _ _, Below.refl _ _⟩
    case round =>
      obtain ⟨k, hkg, rfl, hpk, hb⟩ := hrel
      have hrr := hr0.out.belowTop hb
      by_cases hk : k < N
      · have hki : (k : Int) < (N : Int) := by omega
        obtain ⟨hb1, hb2⟩ := hbd.out k hk
        rw [Nat.succ_mul] at hb1
        have hpf : partF M xs k = (xs.drop (k * M)).take M := rfl
        have hz : ((k : Int) + 1) * (M : Int) = (k : Int) * M + M := by rw [Int.add_mul, Int.one_mul]
        have hza : (k : Int) * (M : Int) = ((k * M : Nat) : Int) := by omega
        rw [hza] at hz
        generalize k * M = a at hb1 hb2 hpf hz hza
        have hsn := range_snoc (partF M xs) k
        rw [hpf] at hsn
        have hdl : ((List.range k).map (partF M xs)).length ≤ 3000 := by rw [List.length_map, List.length_range]; omega
        generalize (List.range k).map (partF M xs) = d at hpk hsn hdl
        obtain ⟨Av, cv, rfl⟩ := hpk.shape
        replace hsn := Lib.hid hsn
        replace hpf := Lib.hid hpf
        replace hpk := Lib.hid hpk
        replace hrr := Lib.hid hrr
        have hle := hr0.out.le
        have Hlt := Lib.hid hpk.out.lt
        by_cases hgt : (xs.length : Int) < (a : Int) + M
        · have hst : ((xs.take (xs.length)).drop a) = (xs.drop a).take M := by rw [List.take_length, List.take_of_length_le (by rw [List.length_drop]; omega)]
          obtain ⟨A2, c2, hsl, hr2, had⟩ := hrr.out.part (f := a) (k := xs.length) (by omega) (by omega)
          rw [hst] at hsl hr2
          rw [← hpf.out] at hsl hr2
          have hyl : (partF M xs k).length ≤ 1024 := by rw [hpf.out, List.length_take]; omega
          rw [← hpf.out] at hsn
          generalize partF M xs k = ys at hsl hr2 hsn hyl
          obtain ⟨g1, g2, g3⟩ : (if c = a then A else Option.map (fun x => x.add a) A) = A2 ∧ xs.length - a = ys.length ∧ c - a = c2 := by simpa [sliced] using hsl
          have hne : 0 < ys.length → ∀ ad, A2 = some ad → some ad.block ≠ (Value.slice Av d.length cv).ownBlock := fun _ ad e e2 => by
            obtain ⟨ad0, e3, e4⟩ := had ad e
            obtain ⟨b0, o0, e5, e6, _⟩ := hr0.out.cells (by omega)
            rw [e3] at e5
            obtain rfl := Option.some.inj e5
            have h1 := (Hlt.out ad.block e2.symm).1
            have h2 : ad.block = b0 := e4
            omega
          replace hne := Lib.hid hne
          go_wp2_with (at_builtin; refine wpl_appendPk Try.underlying23 Try.info22 rfl (.tmp 36) (.tmp 43) rfl w.heap.size _ d rfl hpk.out A2 c2 ys hr2 hne.out rfl (by omega) hb.size ?_; intro v2 w2 hpk2 hb2)
          go_roundg (gk - 1)
          case measure => omega
          case rel => exact ⟨k + 1, by omega, by go_num, by rw [hsn.out]; exact hpk2, hb.trans hb2⟩
        · have hst : ((xs.take (a + M)).drop a) = (xs.drop a).take M := by rw [List.drop_take]; congr 1; omega
          obtain ⟨A2, c2, hsl, hr2, had⟩ := hrr.out.part (f := a) (k := a + M) (by omega) (by omega)
          rw [hst] at hsl hr2
          rw [← hpf.out] at hsl hr2
          have hyl : (partF M xs k).length ≤ 1024 := by rw [hpf.out, List.length_take]; omega
          rw [← hpf.out] at hsn
          generalize partF M xs k = ys at hsl hr2 hsn hyl
          obtain ⟨g1, g2, g3⟩ : (if c = a then A else Option.map (fun x => x.add a) A) = A2 ∧ a + M - a = ys.length ∧ c - a = c2 := by simpa [sliced] using hsl
          have hne : 0 < ys.length → ∀ ad, A2 = some ad → some ad.block ≠ (Value.slice Av d.length cv).ownBlock := fun _ ad e e2 => by
            obtain ⟨ad0, e3, e4⟩ := had ad e
            obtain ⟨b0, o0, e5, e6, _⟩ := hr0.out.cells (by omega)
            rw [e3] at e5
            obtain rfl := Option.some.inj e5
            have h1 := (Hlt.out ad.block e2.symm).1
            have h2 : ad.block = b0 := e4
            omega
          replace hne := Lib.hid hne
          go_wp2_with (at_builtin; refine wpl_appendPk Try.underlying23 Try.info22 rfl (.tmp 36) (.tmp 43) rfl w.heap.size _ d rfl hpk.out A2 c2 ys hr2 hne.out rfl (by omega) hb.size ?_; intro v2 w2 hpk2 hb2)
          go_roundg (gk - 1)
          case measure => omega
          case rel => exact ⟨k + 1, by omega, by go_num, by rw [hsn.out]; exact hpk2, hb.trans hb2⟩
      · obtain rfl : k = N := by omega
        obtain ⟨Av2, cv2, hpe, hpr⟩ := hpk.rds
        subst hpe
        have hmm : manyF M xs.length = k := hN.out
        have hrf : refF M zero xs = (List.range k).map (partF M xs) ++ (if zero && decide (0 < xs.length) && decide (k * M = xs.length) then [[]] else []) := by rw [refF, hmm]
        have hkM : k * M ≤ 2600 := by
          rcases Nat.eq_zero_or_pos k with h | h
          · rw [h]; omega
          · have := (hbd.out (k - 1) (by omega)).1
            rw [show k - 1 + 1 = k by omega] at this
            omega
        have hdl : ((List.range k).map (partF M xs)).length ≤ 3000 := by rw [List.length_map, List.length_range]; omega
        have hq : (k : Int) * (M : Int) = ((k * M : Nat) : Int) := by omega
        generalize k * M = q at hrf hkM hq
        generalize (List.range k).map (partF M xs) = d at hpr hpk hrf hdl ⊢
        have hpk' := Lib.hid hpk
        have hrf' := Lib.hid hrf
        clear hrf hpk hmm
        by_cases hyes : zero = true ∧ 0 < xs.length ∧ q = xs.length
        · obtain ⟨rfl, hl, rfl⟩ := hyes
          have hl2 : (0 : Int) < (xs.length : Int) := by omega
          go_wp2_with (at_builtin; refine wpl_appendPk Try.underlying23 Try.info22 rfl (.tmp 59) (.tmp 60) rfl w.heap.size _ d rfl hpk'.out none 0 [] (Rd.nil _ _) (fun h => absurd h (by simp)) rfl (by omega) hb.size ?_; intro v2 w2 hpk2 hb2)
          obtain ⟨A5, c5, e5, hr5⟩ := hpk2.rds
          subst e5
          go_ret
          have e6 : refF M true xs = d ++ [[]] := by rw [hrf'.out]; simp [hl]
          rw [e6]
          exact ⟨_, _, rfl, hr5, hb.trans hb2⟩
        · have e6 : refF M zero xs = d := by
            rw [hrf'.out, if_neg (by simp only [Bool.and_eq_true, decide_eq_true_eq]; exact fun h => hyes ⟨h.1.1, h.1.2, h.2⟩)]
            simp
          by_cases hz : zero = true
          · subst hz
            by_cases hl : 0 < xs.length
            · have hqn : ¬ (q : Int) = (xs.length : Int) := fun h => hyes ⟨rfl, hl, by omega⟩
              have hl2 : (0 : Int) < (xs.length : Int) := by omega
              go_wp2_with fail
              go_ret
              try rw [e6]
              exact ⟨_, _, rfl, hpr, hb⟩
            · have hl2 : ¬ (0 : Int) < (xs.length : Int) := by omega
              go_wp2_with fail
              go_ret
              try rw [e6]
              exact ⟨_, _, rfl, hpr, hb⟩
          · have hz' : zero = false := by simpa using hz
            subst hz'
            go_wp2_with fail
            go_ret
            try rw [e6]
            exact ⟨_, _, rfl, hpr, hb⟩
end Go.Proofs.Ytfaocndelibadaa
