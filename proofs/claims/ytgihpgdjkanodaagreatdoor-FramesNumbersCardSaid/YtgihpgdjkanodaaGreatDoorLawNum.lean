/-
  Helper text: the walk of the law FramesNumbers; no statement is proved here.
-/
import Derived.Test.YtgihpgdjkanodaaGreatDoorNum
import Derived.Test.YtgihpgdjkanodaaGreatDoorLives
namespace Go.Proofs.YtgihpgdjkanodaaGreatDoor
open Go Go.RowKit

/-- The ticks behind k frames. -/
def tkN (sp k : Nat) : Nat := if sp = 2 then k else 8 * min k 131072
/-- What the last of them has sent. -/
def snN (sp k : Nat) : List SentP := if k = 0 then [] else [(sofP ((tkN sp k - 1) / 8 % 2048), true, 0)]
theorem tkN1 (j : Nat) : tkN 1 j = 8 * min j 131072 := if_neg (by decide)
theorem tkN2 (j : Nat) : tkN 2 j = j := if_pos rfl
theorem snN_pos {sp k : Nat} (h : k ≠ 0) : snN sp k = [(sofP ((tkN sp k - 1) / 8 % 2048), true, 0)] := if_neg h
theorem tkN_next (sp k : Nat) (hsp : sp = 1 ∨ sp = 2) (hk : k ≤ 200000) : tkN sp (k + 1) = nTk sp (tkN sp k) := by
  unfold nTk stepN
  rcases hsp with rfl | rfl
  · rw [tkN1, tkN1, show (if (1 : Nat) = 2 then 1 else 8) = 8 from rfl]
    split <;> omega
  · rw [tkN2, tkN2, show (if (2 : Nat) = 2 then 1 else 8) = 1 from rfl]
    split <;> omega
theorem snN_next (sp k : Nat) (hsp : sp = 1 ∨ sp = 2) (hk : k ≤ 200000) : snN sp (k + 1) = nSn (tkN sp k) (snN sp k) := by
  rw [snN_pos (by omega)]
  unfold nSn
  rcases hsp with rfl | rfl
  · rw [tkN1, tkN1]
    by_cases h : k < 131072
    · rw [if_pos (by omega)]
      have : (8 * min (k + 1) 131072 - 1) / 8 % 2048 = 8 * min k 131072 / 8 % 2048 := by omega
      rw [this]
    · rw [if_neg (by omega), snN_pos (by omega), tkN1]
      have : 8 * min (k + 1) 131072 = 8 * min k 131072 := by omega
      rw [this]
  · rw [tkN2, tkN2, if_pos (by omega)]
    have : k + 1 - 1 = k := by omega
    rw [this]
/-- A list with one element. -/
theorem one_cells {W : World} {A : Option Addr} {M c : Nat} {s : SentP} (h : OwnU M W (.slice A 1 c) [s]) : ∃ g, A = some ⟨g, 0, none⟩ ∧ ∃ A1 c1, ∀ i v, (snL s A1 c1)[i]? = some v → W.cell? ⟨g, i, none⟩ = some v := by
  obtain ⟨vs, D, h1, h2, _⟩ := h
  rcases h1.2 with ⟨_, h⟩ | ⟨g, cap, cur, e, hg, hh, hle, hmx, hcs, ht⟩
  · exact absurd h (by simp)
  · injection e with e1 e2 e3
    subst e1
    obtain ⟨A1, c1, rest, rfl, _, h4⟩ := h2
    obtain rfl : rest = [] := h4
    have ht' : cur.toList.take 12 = snL s A1 c1 ++ [] := ht
    refine ⟨g, rfl, A1, c1, fun i v hv => ?_⟩
    have hi : i < 12 := (List.getElem?_eq_some_iff.1 hv).1
    rw [cell_of_row W g i cur _ (0, 0) hh, ← Array.getElem?_toList]
    have : (cur.toList.take 12)[i]? = some v := by rw [ht', List.append_nil]; exact hv
    rw [List.getElem?_take, if_pos hi] at this
    exact this

set_option maxHeartbeats 6400000 in
set_option maxRecDepth 100000 in
theorem num_hi (w : World) (hL : Laid w) (hLN : 0 < w.heap.size) (m n : Nat) (hm : m < 4294967296) (hn : m % 20001 = n) (hnl : n ≤ 132000) (hc : n ≤ 20000) :
    Calls Tryz.prog 5 #[.bool true, .int .u32 (m : Int)] w (ResB w true) := by
  have hr1 : (m : Int) % 20001 = (n : Int) := by omega
  have hr2 : (m : Int).tmod 20001 = (n : Int) := by rw [Int.tmod_eq_emod_of_nonneg (by omega)]; exact hr1
  have hr3 : ¬ (20001 : Int) = 0 := by decide
  have Hn0 := Lib.hid hnl
  have Hc := Lib.hid hc
  skip
  have HL := Lib.hid hL
  have HLN := Lib.hid hLN
  have KS := Lib.hid (speed_any w true)
  have KN := Lib.hid (new_good w 2 (.inr rfl) .nilIface .nilIface (.inl rfl) (.inl rfl))
  have KF := Lib.hid fun (X : World) (tk : Nat) (l : List SentP) (h : NumI w w.heap.size 2 tk l X) => frameNum w X hL hLN w.heap.size 2 tk (.inr rfl) (Nat.le_refl _) l h
  have I0 := Lib.hid (numI_new w 2)
  clear hn hm hL hLN hc
  have hnb : (n : Int) ≤ 132000 := by omega
  clear hnl
  go_enter Tryz.func5, Tryz.ntmps5
  go_wp2_with fail
  refine KS.out.mono ?_
  rintro e w1 ⟨rfl, rfl⟩
  go_wp2_with fail
  refine KN.out.mono ?_
  rintro e w1 ⟨rfl, rfl⟩
  generalize w.alloc (busC 2 .nilIface .nilIface 0 none 0 0) = y0 at I0 ⊢
  clear hr1 hr2 hr3 KS KN
  obtain ⟨B, hB⟩ : ∃ B, w.heap.size = B := ⟨_, rfl⟩
  rw [hB] at KF I0 ⊢
  go_wp2
  go_loopw [10] (fun i W => ∃ k : Nat, k ≤ n ∧ i = .int .i64 k ∧ NumI w B 2 (tkN 2 k) (snN 2 k) W) (fun i _ => n - (intOf i).toNat)
  case atStart => exact ⟨0, by omega, rfl, I0.out⟩
  case round =>
    obtain ⟨k, hk, rfl, hI⟩ := hrel
    by_cases hkn : k < n
    · have h1 := KF.out wr _ _ hI
      rw [← tkN_next 2 k (.inr rfl) (by have := Hn0.out; omega), ← snN_next 2 k (.inr rfl) (by have := Hn0.out; omega)] at h1
      have K1 := Lib.hid h1
      clear hI h1 hB
      go_wp2_with fail
      refine K1.out.mono ?_
      rintro e W1 ⟨⟨Ao, co, rfl⟩, h1⟩
      have H1 := Lib.hid h1
      clear h1
      go_wp2
      go_roundw
      case rel => exact ⟨k + 1, by omega, by go_num, H1.out⟩
      case measure => simp [intOf]; omega
    · have hk9 : k = n := by omega
      subst hk9
      clear hkn hk
      obtain ⟨A, c, F, h1, h2, h3, h4⟩ := hI
      have Kt0 := ticks_any wr B 2 (by decide) _ _ _ _ _ _ h1
      rw [show ((tkN 2 k : Nat) : Int) = (k : Int) by rw [tkN2]] at Kt0
      have Kt := Lib.hid Kt0
      have KV := Lib.hid fun (X : World) (hX : Below w.heap.size w X) => lives_any X (HL.out.below hX)
      have H4 := Lib.hid h4
      by_cases h0 : k = 0
      · subst h0
        have Kn0 := numb_any wr B 2 (by decide) _ _ _ (by show 0 ≤ 1048576; omega) _ _ _ h1
        have Kn : Hid (Calls Tryz.prog 8 #[.pointer (some ⟨B, 0, none⟩)] wr fun e w' => e = .returned (.int .u16 0) ∧ wr = w') := Lib.hid Kn0
        have Kr := Lib.hid (trace_empty wr B 2 (by decide) _ _ _ A c h1)
        have Kt1 : Hid (Calls Tryz.prog 7 #[.pointer (some ⟨B, 0, none⟩)] wr fun e w' => e = .returned (.int .i64 0) ∧ wr = w') := Lib.hid Kt0
        clear h1 h2 h3 h4 Kt0 KF hB I0 Kn0 Kt
        go_wp2_with fail
        refine Kt1.out.mono ?_
        rintro e w1 ⟨rfl, rfl⟩
        go_wp2_with fail
        refine Kn.out.mono ?_
        rintro e w1 ⟨rfl, rfl⟩
        go_wp2_with fail
        refine Kr.out.mono ?_
        rintro e w1 ⟨rfl, rfl⟩
        go_wp2_with fail
        refine (KV.out _ H4.out).mono ?_
        rintro e w3 ⟨rfl, hb3⟩
        have H6 := Lib.hid (H4.out.trans (hb3.mono H4.out.size))
        clear hb3
        go_wp2
        go_ret
        exact ⟨rfl, H6.out⟩
      · have hs := snN_pos (sp := 2) h0
        have hnum : (tkN 2 k - 1) / 8 % 2048 = numN (tkN 2 k) := by unfold numN; rw [if_neg (by rw [tkN2]; omega)]
        rw [hnum] at hs
        have h1b := h1
        rw [hs] at h1 h2
        have Kr := Lib.hid (trace_any wr B 2 (by decide) _ _ _ A c _ h1 h2 (by simp) (fun j hj => by
          have : j = 0 := by simpa using hj
          subst this
          exact Nat.zero_le _))
        have hq : numN (tkN 2 k) = (k - 1) / 8 % 2048 := by unfold numN; rw [if_neg (by rw [tkN2]; omega)]; rw [tkN2]
        have htl : tkN 2 k ≤ 1048576 := by rw [tkN2]; have := Hn0.out; omega
        have Kn0 := Lib.hid fun (X : World) (hX : Below wr.heap.size wr X) => numb_any X B 2 (by decide) _ _ _ htl _ _ _ ((hX.block B (block_lt h1b)).trans h1b)
        rw [hq] at Kn0 Kr
        have hkp : ((k : Int) == 0) = false := beq_eq_false_iff_ne.2 (by omega)
        have hkl : (1 : Int) ≤ (k : Int) := by omega
        obtain ⟨q, hq1⟩ : ∃ q, (k - 1) / 8 = q := ⟨_, rfl⟩
        obtain ⟨r, hr⟩ : ∃ r, q % 2048 = r := ⟨_, rfl⟩
        rw [hq1, hr] at Kn0 Kr
        have hr2 : r < 2048 := by rw [← hr]; exact Nat.mod_lt _ (by omega)
        have e5 : ((k : Int) - 1) / 8 = (q : Int) := by omega
        have e1 : ((k : Int) - 1).tdiv 8 = (q : Int) := by rw [Int.tdiv_eq_ediv_of_nonneg (by omega)]; exact e5
        have e4 : (q : Int) % 2048 = (r : Int) := by omega
        have e2 : (q : Int).tmod 2048 = (r : Int) := by rw [Int.tmod_eq_emod_of_nonneg (by omega)]; exact e4
        have e3 : (IntKind.u16).wrap (r : Int) = (r : Int) := by rw [show (IntKind.u16).wrap (r : Int) = (r : Int) % 65536 from rfl]; omega
        have e6 : (r : Int) % 65536 = (r : Int) := by omega
        have hqb : q ≤ 131072 := by have := Hn0.out; have := Hc.out; omega
        clear hq1 hr
        clear hs hnum hq h1 h1b h2 h3 h4 Kt0 KF hB I0 htl
        go_wp2_with fail
        refine Kt.out.mono ?_
        rintro e w1 ⟨rfl, rfl⟩
        go_wp2_with fail
        refine Kr.out.mono ?_
        rintro e W2 ⟨A3, c3, rfl, ho, hb2⟩
        obtain ⟨g, rfl, A4, c4, hcell⟩ := one_cells ho
        have d0 := hcell 0 (.int .u8 5) rfl
        have d3 := hcell 3 (.int .u16 ((r : Nat) : Int)) rfl
        have d10 := hcell 10 (.bool true) rfl
        have H5 := Lib.hid (H4.out.trans (hb2.mono H4.out.size))
        have Kn2 := Lib.hid (Kn0.out _ hb2)
        clear hcell ho hb2 Kt Kr Kn0 H4
        go_wp2_with fail
        refine Kn2.out.mono ?_
        rintro e w1 ⟨rfl, rfl⟩
        go_wp2_with fail
        refine (KV.out _ H5.out).mono ?_
        rintro e w3 ⟨rfl, hb3⟩
        have H6 := Lib.hid (H5.out.trans (hb3.mono H5.out.size))
        clear hb3
        go_wp2
        go_ret
        exact ⟨rfl, H6.out⟩

set_option maxHeartbeats 6400000 in
set_option maxRecDepth 100000 in
theorem num_lo (w : World) (hL : Laid w) (hLN : 0 < w.heap.size) (m n : Nat) (hm : m < 4294967296) (hn : m % 132001 = n) (hnl : n ≤ 132000) (hc : n ≤ 131072) :
    Calls Tryz.prog 5 #[.bool false, .int .u32 (m : Int)] w (ResB w true) := by
  have hr1 : (m : Int) % 132001 = (n : Int) := by omega
  have hr2 : (m : Int).tmod 132001 = (n : Int) := by rw [Int.tmod_eq_emod_of_nonneg (by omega)]; exact hr1
  have hr3 : ¬ (132001 : Int) = 0 := by decide
  have Hn0 := Lib.hid hnl
  have Hc := Lib.hid hc
  have hd : decide ((131072 : Int) < (n : Int)) = false := decide_eq_false (by omega)
  have HL := Lib.hid hL
  have HLN := Lib.hid hLN
  have KS := Lib.hid (speed_any w false)
  have KN := Lib.hid (new_good w 1 (.inl rfl) .nilIface .nilIface (.inl rfl) (.inl rfl))
  have KF := Lib.hid fun (X : World) (tk : Nat) (l : List SentP) (h : NumI w w.heap.size 1 tk l X) => frameNum w X hL hLN w.heap.size 1 tk (.inl rfl) (Nat.le_refl _) l h
  have I0 := Lib.hid (numI_new w 1)
  clear hn hm hL hLN hc
  have hnb : (n : Int) ≤ 132000 := by omega
  clear hnl
  go_enter Tryz.func5, Tryz.ntmps5
  go_wp2_with fail
  refine KS.out.mono ?_
  rintro e w1 ⟨rfl, rfl⟩
  go_wp2_with fail
  refine KN.out.mono ?_
  rintro e w1 ⟨rfl, rfl⟩
  generalize w.alloc (busC 1 .nilIface .nilIface 0 none 0 0) = y0 at I0 ⊢
  clear hr1 hr2 hr3 KS KN
  obtain ⟨B, hB⟩ : ∃ B, w.heap.size = B := ⟨_, rfl⟩
  rw [hB] at KF I0 ⊢
  go_wp2
  go_loopw [10] (fun i W => ∃ k : Nat, k ≤ n ∧ i = .int .i64 k ∧ NumI w B 1 (tkN 1 k) (snN 1 k) W) (fun i _ => n - (intOf i).toNat)
  case atStart => exact ⟨0, by omega, rfl, I0.out⟩
  case round =>
    obtain ⟨k, hk, rfl, hI⟩ := hrel
    by_cases hkn : k < n
    · have h1 := KF.out wr _ _ hI
      rw [← tkN_next 1 k (.inl rfl) (by have := Hn0.out; omega), ← snN_next 1 k (.inl rfl) (by have := Hn0.out; omega)] at h1
      have K1 := Lib.hid h1
      clear hI h1 hB
      go_wp2_with fail
      refine K1.out.mono ?_
      rintro e W1 ⟨⟨Ao, co, rfl⟩, h1⟩
      have H1 := Lib.hid h1
      clear h1
      go_wp2
      go_roundw
      case rel => exact ⟨k + 1, by omega, by go_num, H1.out⟩
      case measure => simp [intOf]; omega
    · have hk9 : k = n := by omega
      subst hk9
      clear hkn hk
      obtain ⟨A, c, F, h1, h2, h3, h4⟩ := hI
      have Kt0 := ticks_any wr B 1 (by decide) _ _ _ _ _ _ h1
      rw [show ((tkN 1 k : Nat) : Int) = (k : Int) * 8 by rw [tkN1]; have := Hc.out; omega] at Kt0
      have Kt := Lib.hid Kt0
      have KV := Lib.hid fun (X : World) (hX : Below w.heap.size w X) => lives_any X (HL.out.below hX)
      have H4 := Lib.hid h4
      by_cases h0 : k = 0
      · subst h0
        have Kn0 := numb_any wr B 1 (by decide) _ _ _ (by show 0 ≤ 1048576; omega) _ _ _ h1
        have Kn : Hid (Calls Tryz.prog 8 #[.pointer (some ⟨B, 0, none⟩)] wr fun e w' => e = .returned (.int .u16 0) ∧ wr = w') := Lib.hid Kn0
        have Kr := Lib.hid (trace_empty wr B 1 (by decide) _ _ _ A c h1)
        have Kt1 : Hid (Calls Tryz.prog 7 #[.pointer (some ⟨B, 0, none⟩)] wr fun e w' => e = .returned (.int .i64 0) ∧ wr = w') := Lib.hid Kt0
        clear h1 h2 h3 h4 Kt0 KF hB I0 Kn0 Kt
        go_wp2_with fail
        refine Kt1.out.mono ?_
        rintro e w1 ⟨rfl, rfl⟩
        go_wp2_with fail
        refine Kn.out.mono ?_
        rintro e w1 ⟨rfl, rfl⟩
        go_wp2_with fail
        refine Kr.out.mono ?_
        rintro e w1 ⟨rfl, rfl⟩
        go_wp2_with fail
        refine (KV.out _ H4.out).mono ?_
        rintro e w3 ⟨rfl, hb3⟩
        have H6 := Lib.hid (H4.out.trans (hb3.mono H4.out.size))
        clear hb3
        go_wp2
        go_ret
        exact ⟨rfl, H6.out⟩
      · have hs := snN_pos (sp := 1) h0
        have hnum : (tkN 1 k - 1) / 8 % 2048 = numN (tkN 1 k) := by unfold numN; rw [if_neg (by rw [tkN1]; omega)]
        rw [hnum] at hs
        have h1b := h1
        rw [hs] at h1 h2
        have Kr := Lib.hid (trace_any wr B 1 (by decide) _ _ _ A c _ h1 h2 (by simp) (fun j hj => by
          have : j = 0 := by simpa using hj
          subst this
          exact Nat.zero_le _))
        have hq : numN (tkN 1 k) = (8 * k - 1) / 8 % 2048 := by unfold numN; rw [if_neg (by rw [tkN1]; omega)]; rw [tkN1]; have := Hc.out; rw [Nat.min_eq_left (by omega)]
        have htl : tkN 1 k ≤ 1048576 := by rw [tkN1]; omega
        have Kn0 := Lib.hid fun (X : World) (hX : Below wr.heap.size wr X) => numb_any X B 1 (by decide) _ _ _ htl _ _ _ ((hX.block B (block_lt h1b)).trans h1b)
        rw [hq] at Kn0 Kr
        have hkp : ((k : Int) == 0) = false := beq_eq_false_iff_ne.2 (by omega)
        have hkl : (1 : Int) ≤ (k : Int) := by omega
        obtain ⟨q, hq1⟩ : ∃ q, (8 * k - 1) / 8 = q := ⟨_, rfl⟩
        obtain ⟨r, hr⟩ : ∃ r, q % 2048 = r := ⟨_, rfl⟩
        rw [hq1, hr] at Kn0 Kr
        have hr2 : r < 2048 := by rw [← hr]; exact Nat.mod_lt _ (by omega)
        have e5 : ((k : Int) * 8 - 1) / 8 = (q : Int) := by omega
        have e1 : ((k : Int) * 8 - 1).tdiv 8 = (q : Int) := by rw [Int.tdiv_eq_ediv_of_nonneg (by omega)]; exact e5
        have e4 : (q : Int) % 2048 = (r : Int) := by omega
        have e2 : (q : Int).tmod 2048 = (r : Int) := by rw [Int.tmod_eq_emod_of_nonneg (by omega)]; exact e4
        have e3 : (IntKind.u16).wrap (r : Int) = (r : Int) := by rw [show (IntKind.u16).wrap (r : Int) = (r : Int) % 65536 from rfl]; omega
        have e6 : (r : Int) % 65536 = (r : Int) := by omega
        have hqb : q ≤ 131072 := by have := Hn0.out; have := Hc.out; omega
        clear hq1 hr
        clear hs hnum hq h1 h1b h2 h3 h4 Kt0 KF hB I0 htl
        go_wp2_with fail
        refine Kt.out.mono ?_
        rintro e w1 ⟨rfl, rfl⟩
        go_wp2_with fail
        refine Kr.out.mono ?_
        rintro e W2 ⟨A3, c3, rfl, ho, hb2⟩
        obtain ⟨g, rfl, A4, c4, hcell⟩ := one_cells ho
        have d0 := hcell 0 (.int .u8 5) rfl
        have d3 := hcell 3 (.int .u16 ((r : Nat) : Int)) rfl
        have d10 := hcell 10 (.bool true) rfl
        have H5 := Lib.hid (H4.out.trans (hb2.mono H4.out.size))
        have Kn2 := Lib.hid (Kn0.out _ hb2)
        clear hcell ho hb2 Kt Kr Kn0 H4
        go_wp2_with fail
        refine Kn2.out.mono ?_
        rintro e w1 ⟨rfl, rfl⟩
        go_wp2_with fail
        refine (KV.out _ H5.out).mono ?_
        rintro e w3 ⟨rfl, hb3⟩
        have H6 := Lib.hid (H5.out.trans (hb3.mono H5.out.size))
        clear hb3
        go_wp2
        go_ret
        exact ⟨rfl, H6.out⟩

set_option maxHeartbeats 6400000 in
set_option maxRecDepth 100000 in
theorem num_ov (w : World) (hL : Laid w) (hLN : 0 < w.heap.size) (m n : Nat) (hm : m < 4294967296) (hn : m % 132001 = n) (hnl : n ≤ 132000) (hc : 131072 < n) :
    Calls Tryz.prog 5 #[.bool false, .int .u32 (m : Int)] w (ResB w true) := by
  have hr1 : (m : Int) % 132001 = (n : Int) := by omega
  have hr2 : (m : Int).tmod 132001 = (n : Int) := by rw [Int.tmod_eq_emod_of_nonneg (by omega)]; exact hr1
  have hr3 : ¬ (132001 : Int) = 0 := by decide
  have Hn0 := Lib.hid hnl
  have Hc := Lib.hid hc
  have hd : decide ((131072 : Int) < (n : Int)) = true := decide_eq_true (by omega)
  have HL := Lib.hid hL
  have HLN := Lib.hid hLN
  have KS := Lib.hid (speed_any w false)
  have KN := Lib.hid (new_good w 1 (.inl rfl) .nilIface .nilIface (.inl rfl) (.inl rfl))
  have KF := Lib.hid fun (X : World) (tk : Nat) (l : List SentP) (h : NumI w w.heap.size 1 tk l X) => frameNum w X hL hLN w.heap.size 1 tk (.inl rfl) (Nat.le_refl _) l h
  have I0 := Lib.hid (numI_new w 1)
  clear hn hm hL hLN hc
  have hnb : (n : Int) ≤ 132000 := by omega
  clear hnl
  go_enter Tryz.func5, Tryz.ntmps5
  go_wp2_with fail
  refine KS.out.mono ?_
  rintro e w1 ⟨rfl, rfl⟩
  go_wp2_with fail
  refine KN.out.mono ?_
  rintro e w1 ⟨rfl, rfl⟩
  generalize w.alloc (busC 1 .nilIface .nilIface 0 none 0 0) = y0 at I0 ⊢
  clear hr1 hr2 hr3 KS KN
  obtain ⟨B, hB⟩ : ∃ B, w.heap.size = B := ⟨_, rfl⟩
  rw [hB] at KF I0 ⊢
  go_wp2
  go_loopw [10] (fun i W => ∃ k : Nat, k ≤ n ∧ i = .int .i64 k ∧ NumI w B 1 (tkN 1 k) (snN 1 k) W) (fun i _ => n - (intOf i).toNat)
  case atStart => exact ⟨0, by omega, rfl, I0.out⟩
  case round =>
    obtain ⟨k, hk, rfl, hI⟩ := hrel
    by_cases hkn : k < n
    · have h1 := KF.out wr _ _ hI
      rw [← tkN_next 1 k (.inl rfl) (by have := Hn0.out; omega), ← snN_next 1 k (.inl rfl) (by have := Hn0.out; omega)] at h1
      have K1 := Lib.hid h1
      clear hI h1 hB
      go_wp2_with fail
      refine K1.out.mono ?_
      rintro e W1 ⟨⟨Ao, co, rfl⟩, h1⟩
      have H1 := Lib.hid h1
      clear h1
      go_wp2
      go_roundw
      case rel => exact ⟨k + 1, by omega, by go_num, H1.out⟩
      case measure => simp [intOf]; omega
    · have hk9 : k = n := by omega
      subst hk9
      clear hkn hk
      obtain ⟨A, c, F, h1, h2, h3, h4⟩ := hI
      have Kt0 := ticks_any wr B 1 (by decide) _ _ _ _ _ _ h1
      rw [show ((tkN 1 k : Nat) : Int) = (1048576 : Int) by rw [tkN1]; have := Hc.out; omega] at Kt0
      have Kt := Lib.hid Kt0
      have KV := Lib.hid fun (X : World) (hX : Below w.heap.size w X) => lives_any X (HL.out.below hX)
      have H4 := Lib.hid h4
      by_cases h0 : k = 0
      · exact absurd h0 (by have := Hc.out; omega)
      · have hs := snN_pos (sp := 1) h0
        have hnum : (tkN 1 k - 1) / 8 % 2048 = numN (tkN 1 k) := by unfold numN; rw [if_neg (by rw [tkN1]; omega)]
        rw [hnum] at hs
        have h1b := h1
        rw [hs] at h1 h2
        have Kr := Lib.hid (trace_any wr B 1 (by decide) _ _ _ A c _ h1 h2 (by simp) (fun j hj => by
          have : j = 0 := by simpa using hj
          subst this
          exact Nat.zero_le _))
        have hq : numN (tkN 1 k) = (1048576 - 1) / 8 % 2048 := by unfold numN; rw [if_neg (by rw [tkN1]; omega)]; rw [tkN1]; have := Hc.out; rw [Nat.min_eq_right (by omega)]
        have htl : tkN 1 k ≤ 1048576 := by rw [tkN1]; omega
        have Kn0 := Lib.hid fun (X : World) (hX : Below wr.heap.size wr X) => numb_any X B 1 (by decide) _ _ _ htl _ _ _ ((hX.block B (block_lt h1b)).trans h1b)
        rw [hq] at Kn0 Kr
        have hkp : ((k : Int) == 0) = false := beq_eq_false_iff_ne.2 (by omega)
        obtain ⟨r, hr⟩ : ∃ r : Nat, r = 2047 := ⟨_, rfl⟩
        rw [show (1048576 - 1) / 8 % 2048 = r from hr.symm] at Kn0 Kr
        subst hr
        clear hs hnum hq h1 h1b h2 h3 h4 Kt0 KF hB I0 htl
        go_wp2_with fail
        refine Kt.out.mono ?_
        rintro e w1 ⟨rfl, rfl⟩
        go_wp2_with fail
        refine Kr.out.mono ?_
        rintro e W2 ⟨A3, c3, rfl, ho, hb2⟩
        obtain ⟨g, rfl, A4, c4, hcell⟩ := one_cells ho
        have d0 := hcell 0 (.int .u8 5) rfl
        have d3 := hcell 3 (.int .u16 2047) rfl
        have d10 := hcell 10 (.bool true) rfl
        have H5 := Lib.hid (H4.out.trans (hb2.mono H4.out.size))
        have Kn2 := Lib.hid (Kn0.out _ hb2)
        clear hcell ho hb2 Kt Kr Kn0 H4
        go_wp2_with fail
        refine Kn2.out.mono ?_
        rintro e w1 ⟨rfl, rfl⟩
        go_wp2_with fail
        refine (KV.out _ H5.out).mono ?_
        rintro e w3 ⟨rfl, hb3⟩
        have H6 := Lib.hid (H5.out.trans (hb3.mono H5.out.size))
        clear hb3
        go_wp2
        go_ret
        exact ⟨rfl, H6.out⟩

theorem num_any (w : World) (hL : Laid w) (hLN : 0 < w.heap.size) (hi : Bool) (m : Nat) (hm : m < 4294967296) :
    Calls Tryz.prog 5 #[.bool hi, .int .u32 (m : Int)] w (ResB w true) := by
  cases hi
  · have h1 : m % 132001 < 132001 := Nat.mod_lt _ (by omega)
    by_cases h : m % 132001 ≤ 131072
    · exact num_lo w hL hLN m _ hm rfl (by omega) h
    · exact num_ov w hL hLN m _ hm rfl (by omega) (by omega)
  · have h1 : m % 20001 < 20001 := Nat.mod_lt _ (by omega)
    exact num_hi w hL hLN m _ hm rfl (by omega) (by omega)

end Go.Proofs.YtgihpgdjkanodaaGreatDoor
