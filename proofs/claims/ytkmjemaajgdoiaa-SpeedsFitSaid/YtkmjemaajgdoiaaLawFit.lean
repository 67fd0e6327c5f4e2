/-
  Helper text: the walk of the law SpeedsFit; no statement is proved here.
-/
import Derived.Test.YtkmjemaajgdoiaaRefS
namespace Go.Proofs.Ytkmjemaajgdoiaa
open Go Go.RowKit

theorem lawFit_long (w : World) (b : Int) (m : Nat) (A : Option Addr) (c n : Nat) (h : 200 < n) : Calls Try.prog 6 #[.int .i64 b, .int .u16 (m : Int), .slice A n c] w (ResB w true) := by
  have t1 : (200 : Int) < (n : Int) := by omega
  go_enter Try.func6, Try.ntmps6
  go_wp2
  go_ret
  exact ⟨rfl, Below.refl _ _⟩

/-- Where the first loop of the law ends. -/
theorem fit_end {b L : Int} {zs : List Int} {k N : Nat} (hN : fitN b zs = N) (hf : fitN b zs = k + fitN L (zs.drop k)) (h : k = zs.length ∨ k < zs.length ∧ (L < 0 ∨ zs.getD k 0 < 0 ∨ L < zs.getD k 0)) : N = k := by
  rcases h with h | ⟨h, h2⟩
  · subst h
    rw [List.drop_length] at hf
    have : fitN L [] = 0 := rfl
    omega
  · rw [drop_at zs h] at hf
    have : fitN L (zs.getD k 0 :: zs.drop (k + 1)) = 0 := fitN_stop (by omega)
    omega

theorem fitN_le (zs : List Int) : ∀ b : Int, fitN b zs ≤ zs.length := by
  induction zs with
  | nil => intro _; exact Nat.le_refl _
  | cons z zs ih =>
    intro b
    simp only [fitN]
    split
    · exact Nat.zero_le _
    · have := ih (b - z)
      simp only [List.length_cons]
      omega

set_option maxHeartbeats 3200000 in
set_option maxRecDepth 100000 in
theorem lawFit_small (w : World) (b : Int) (hb0 : -9223372036854775808 ≤ b) (hb9 : b ≤ 9223372036854775807) (h62 : b ≤ 4611686018427387904) (m : Nat) (hm : m < 65536) (A : Option Addr) (c : Nat) (zs : List Int) (h : RdI w w.heap.size A c zs) (hl : zs.length ≤ 200) :
    Calls Try.prog 6 #[.int .i64 b, .int .u16 (m : Int), .slice A zs.length c] w (ResB w true) := by
  have t1 : ¬ (200 : Int) < (zs.length : Int) := by omega
  have hcap := h.cap
  have hle := h.le
  have ho := ownI_built w 3 [] (by simp)
  have hb := (Below.refl w.heap.size w).alloc (Nat.le_refl _) (.cells #[] 3)
  have hr0 := h.belowTop hb
  have K1 := Lib.hid fun W (h : RdI W W.heap.size A c zs) => fit_any W b hb0 hb9 _ A c zs h
  have K2 := Lib.hid fun W (h : RdI W W.heap.size A c zs) => fit_any W (b + (m : Int)) (by omega) (by omega) _ A c zs h
  have hmono := fitN_mono zs b (b + (m : Int)) (by omega)
  have hbm0 : -9223372036854775808 ≤ b + (m : Int) := by omega
  have hbm9 : b + (m : Int) ≤ 9223372036854775807 := by omega
  have KL := Lib.hid lives_any
  obtain ⟨N, hN⟩ : ∃ N, fitN b zs = N := ⟨_, rfl⟩
  have HN := Lib.hid hN
  have hNl : N ≤ 200 ∧ True := ⟨by rw [← hN]; exact Nat.le_trans (fitN_le zs b) hl, trivial⟩
  have hNl := hNl.1
  rw [hN] at hmono
  obtain ⟨N2, hN2⟩ : ∃ N2, fitN (b + (m : Int)) zs = N2 := ⟨_, rfl⟩
  rw [hN2] at hmono K2
  have hlt2 : ¬ (N2 : Int) < (N : Int) := by omega
  have Hdec := Lib.hid (show decide (N2 < N) = false from decide_eq_false (by omega))
  clear hN2 hmono
  rw [hN] at K1
  clear hN
  go_enter Try.func6, Try.ntmps6
  go_wp2_with (at_builtin; refine wpl_appendIN Try.underlying37 Try.info3 rfl (.tmp 15) (.tmp 16) rfl w.heap.size _ [] rfl ho _ _ _ zs hr0 rfl (by simp; omega) hb.size ?_; intro v1 w1 own1 hb1; have hb1 := hb.trans hb1; have hrw1 := h.belowTop hb1; rw [List.nil_append] at own1; obtain ⟨A1, c1, rfl, hrwas⟩ := RdI.of_own own1)
  refine (K1.out _ hrw1).mono ?_
  rintro e w2 ⟨rfl, e2⟩
  rw [e2]
  clear e2
  clear K1
  go_wp2
  go_loop [9, 10] (fun i l => ∃ (k : Nat) (L : Int), k ≤ zs.length ∧ i = .int .i64 k ∧ l = .int .i64 L ∧ fitN b zs = k + fitN L (zs.drop k) ∧ L ≤ b ∧ (L = b ∨ 0 ≤ L)) (fun i _ => zs.length - (intOf i).toNat)
  case atStart => exact ⟨0, b, Nat.zero_le _, rfl, rfl, by simp, by omega, .inl rfl⟩
  case round =>
    obtain ⟨k, L, hk, rfl, rfl, hf, hL1, hL2⟩ := hrel
    have Hf := Lib.hid hf
    clear hf
    by_cases hlt : k < zs.length
    · obtain ⟨bk, off, eA, hbB, hcell0⟩ := hrw1.at_ hlt
      have hcell : w1.cell? ⟨bk, off + k, none⟩ = some (.int .i64 (zs.getD k 0)) := hcell0
      clear hcell0
      have He := Lib.hid fun (h : L < 0 ∨ zs.getD k 0 < 0 ∨ L < zs.getD k 0) => fit_end HN.out Hf.out (.inr ⟨hlt, h⟩)
      have Hg := Lib.hid fun (h : ¬ (zs.getD k 0 < 0 ∨ L < zs.getD k 0)) => (show fitN b zs = k + 1 + fitN (L - zs.getD k 0) (zs.drop (k + 1)) by have := Hf.out; rw [drop_at zs hlt, fitN_go h] at this; omega)
      generalize zs.getD k 0 = z at hcell He Hg
      subst eA
      by_cases hL : L < 0
      · have hNk := He.out (.inl hL)
        subst hNk
        have hL0 : ¬ 0 ≤ L := by omega
        clear hL2 He Hg Hf
        go_wp2_with fail
        refine (K2.out _ hrw1).mono ?_
        rintro e w9 ⟨rfl, e9⟩
        rw [e9]
        clear e9
        go_wp2
        rw [Hdec.out]
        go_loopw [6, 11] (fun _ i wr => ∃ k : Nat, k ≤ zs.length ∧ i = .int .i64 k ∧ Below w1.heap.size w1 wr) (fun _ i _ => zs.length - (intOf i).toNat)
        case atStart => exact ⟨0, Nat.zero_le _, rfl, Below.refl _ _⟩
        case round =>
          obtain ⟨j, hj, rfl, hbr⟩ := hrel
          by_cases hjl : j < zs.length
          · obtain ⟨g2, off2, rfl, _, hc2⟩ := (hrwas.below hbr).at_ hjl
            obtain ⟨g1, off1, e1, _, hc1⟩ := (hrw1.below hbr).at_ hjl
            injection e1 with e1; injection e1 with e1 e2; subst e1; subst e2
            generalize zs.getD j 0 = y at hc1 hc2
            go_wp2
            go_region
            all_goals
              go_wp2
              go_roundw
              case rel => exact ⟨j + 1, by omega, by go_num, hbr.drew⟩
              case measure => simp [intOf]; omega
          · have hj9 : j = zs.length := by omega
            subst hj9
            go_wp2_with fail
            refine (KL.out _).mono ?_
            rintro e w8 ⟨rfl, b8⟩
            go_wp2
            go_ret
            exact ⟨rfl, (hb1.trans (hbr.mono hb1.size)).trans (b8.mono (hb1.trans (hbr.mono hb1.size)).size)⟩
      · have hL0 : 0 ≤ L := by omega
        by_cases hz : z < 0
        · have hNk := He.out (.inr (.inl hz))
          subst hNk
          have hz0 : ¬ 0 ≤ z := by omega
          clear hL2 He Hg Hf
          go_wp2_with fail
          refine (K2.out _ hrw1).mono ?_
          rintro e w9 ⟨rfl, e9⟩
          rw [e9]
          clear e9
          go_wp2
          rw [Hdec.out]
          go_loopw [6, 11] (fun _ i wr => ∃ k : Nat, k ≤ zs.length ∧ i = .int .i64 k ∧ Below w1.heap.size w1 wr) (fun _ i _ => zs.length - (intOf i).toNat)
          case atStart => exact ⟨0, Nat.zero_le _, rfl, Below.refl _ _⟩
          case round =>
            obtain ⟨j, hj, rfl, hbr⟩ := hrel
            by_cases hjl : j < zs.length
            · obtain ⟨g2, off2, rfl, _, hc2⟩ := (hrwas.below hbr).at_ hjl
              obtain ⟨g1, off1, e1, _, hc1⟩ := (hrw1.below hbr).at_ hjl
              injection e1 with e1; injection e1 with e1 e2; subst e1; subst e2
              generalize zs.getD j 0 = y at hc1 hc2
              go_wp2
              go_region
              all_goals
                go_wp2
                go_roundw
                case rel => exact ⟨j + 1, by omega, by go_num, hbr.drew⟩
                case measure => simp [intOf]; omega
            · have hj9 : j = zs.length := by omega
              subst hj9
              go_wp2_with fail
              refine (KL.out _).mono ?_
              rintro e w8 ⟨rfl, b8⟩
              go_wp2
              go_ret
              exact ⟨rfl, (hb1.trans (hbr.mono hb1.size)).trans (b8.mono (hb1.trans (hbr.mono hb1.size)).size)⟩
        · have hz0 : 0 ≤ z := by omega
          by_cases hzL : z ≤ L
          · have h1 : L - z ≤ b := by omega
            have h0 : 0 ≤ L - z := by omega
            clear hL2
            go_wp2
            go_round
            case rel => exact ⟨k + 1, L - z, by omega, by go_num, rfl, Hg.out (by omega), h1, .inr h0⟩
            case measure => simp [intOf]; omega
          · have hNk := He.out (.inr (.inr (by omega)))
            subst hNk
            clear hL2 He Hg Hf
            go_wp2_with fail
            refine (K2.out _ hrw1).mono ?_
            rintro e w9 ⟨rfl, e9⟩
            rw [e9]
            clear e9
            go_wp2
            rw [Hdec.out]
            go_loopw [6, 11] (fun _ i wr => ∃ k : Nat, k ≤ zs.length ∧ i = .int .i64 k ∧ Below w1.heap.size w1 wr) (fun _ i _ => zs.length - (intOf i).toNat)
            case atStart => exact ⟨0, Nat.zero_le _, rfl, Below.refl _ _⟩
            case round =>
              obtain ⟨j, hj, rfl, hbr⟩ := hrel
              by_cases hjl : j < zs.length
              · obtain ⟨g2, off2, rfl, _, hc2⟩ := (hrwas.below hbr).at_ hjl
                obtain ⟨g1, off1, e1, _, hc1⟩ := (hrw1.below hbr).at_ hjl
                injection e1 with e1; injection e1 with e1 e2; subst e1; subst e2
                generalize zs.getD j 0 = y at hc1 hc2
                go_wp2
                go_region
                all_goals
                  go_wp2
                  go_roundw
                  case rel => exact ⟨j + 1, by omega, by go_num, hbr.drew⟩
                  case measure => simp [intOf]; omega
              · have hj9 : j = zs.length := by omega
                subst hj9
                go_wp2_with fail
                refine (KL.out _).mono ?_
                rintro e w8 ⟨rfl, b8⟩
                go_wp2
                go_ret
                exact ⟨rfl, (hb1.trans (hbr.mono hb1.size)).trans (b8.mono (hb1.trans (hbr.mono hb1.size)).size)⟩
    · have hNk := fit_end HN.out Hf.out (.inl (show k = zs.length by omega))
      subst hNk
      have hk9 : ¬ (N : Int) < (zs.length : Int) := by omega
      clear hL2 Hf hlt
      go_wp2_with fail
      refine (K2.out _ hrw1).mono ?_
      rintro e w9 ⟨rfl, e9⟩
      rw [e9]
      clear e9
      go_wp2
      rw [Hdec.out]
      go_loopw [6, 11] (fun _ i wr => ∃ k : Nat, k ≤ zs.length ∧ i = .int .i64 k ∧ Below w1.heap.size w1 wr) (fun _ i _ => zs.length - (intOf i).toNat)
      case atStart => exact ⟨0, Nat.zero_le _, rfl, Below.refl _ _⟩
      case round =>
        obtain ⟨j, hj, rfl, hbr⟩ := hrel
        by_cases hjl : j < zs.length
        · obtain ⟨g2, off2, rfl, _, hc2⟩ := (hrwas.below hbr).at_ hjl
          obtain ⟨g1, off1, e1, _, hc1⟩ := (hrw1.below hbr).at_ hjl
          subst e1
          generalize zs.getD j 0 = y at hc1 hc2
          go_wp2
          go_region
          all_goals
            go_wp2
            go_roundw
            case rel => exact ⟨j + 1, by omega, by go_num, hbr.drew⟩
            case measure => simp [intOf]; omega
        · have hj9 : j = zs.length := by omega
          subst hj9
          go_wp2_with fail
          refine (KL.out _).mono ?_
          rintro e w8 ⟨rfl, b8⟩
          go_wp2
          go_ret
          exact ⟨rfl, (hb1.trans (hbr.mono hb1.size)).trans (b8.mono (hb1.trans (hbr.mono hb1.size)).size)⟩

set_option maxHeartbeats 3200000 in
set_option maxRecDepth 100000 in
theorem lawFit_great (w : World) (b : Int) (hb0 : -9223372036854775808 ≤ b) (hb9 : b ≤ 9223372036854775807) (h62 : ¬ b ≤ 4611686018427387904) (m : Nat) (hm : m < 65536) (A : Option Addr) (c : Nat) (zs : List Int) (h : RdI w w.heap.size A c zs) (hl : zs.length ≤ 200) :
    Calls Try.prog 6 #[.int .i64 b, .int .u16 (m : Int), .slice A zs.length c] w (ResB w true) := by
  have t1 : ¬ (200 : Int) < (zs.length : Int) := by omega
  have hcap := h.cap
  have hle := h.le
  have ho := ownI_built w 3 [] (by simp)
  have hb := (Below.refl w.heap.size w).alloc (Nat.le_refl _) (.cells #[] 3)
  have hr0 := h.belowTop hb
  have K1 := Lib.hid fun W (h : RdI W W.heap.size A c zs) => fit_any W b hb0 hb9 _ A c zs h
  have KL := Lib.hid lives_any
  obtain ⟨N, hN⟩ : ∃ N, fitN b zs = N := ⟨_, rfl⟩
  have HN := Lib.hid hN
  have hNl : N ≤ 200 ∧ True := ⟨by rw [← hN]; exact Nat.le_trans (fitN_le zs b) hl, trivial⟩
  have hNl := hNl.1
  rw [hN] at K1
  clear hN
  go_enter Try.func6, Try.ntmps6
  go_wp2_with (at_builtin; refine wpl_appendIN Try.underlying37 Try.info3 rfl (.tmp 15) (.tmp 16) rfl w.heap.size _ [] rfl ho _ _ _ zs hr0 rfl (by simp; omega) hb.size ?_; intro v1 w1 own1 hb1; have hb1 := hb.trans hb1; have hrw1 := h.belowTop hb1; rw [List.nil_append] at own1; obtain ⟨A1, c1, rfl, hrwas⟩ := RdI.of_own own1)
  refine (K1.out _ hrw1).mono ?_
  rintro e w2 ⟨rfl, e2⟩
  rw [e2]
  clear e2
  clear K1
  go_wp2
  go_loop [9, 10] (fun i l => ∃ (k : Nat) (L : Int), k ≤ zs.length ∧ i = .int .i64 k ∧ l = .int .i64 L ∧ fitN b zs = k + fitN L (zs.drop k) ∧ L ≤ b ∧ (L = b ∨ 0 ≤ L)) (fun i _ => zs.length - (intOf i).toNat)
  case atStart => exact ⟨0, b, Nat.zero_le _, rfl, rfl, by simp, by omega, .inl rfl⟩
  case round =>
    obtain ⟨k, L, hk, rfl, rfl, hf, hL1, hL2⟩ := hrel
    have Hf := Lib.hid hf
    clear hf
    by_cases hlt : k < zs.length
    · obtain ⟨bk, off, eA, hbB, hcell0⟩ := hrw1.at_ hlt
      have hcell : w1.cell? ⟨bk, off + k, none⟩ = some (.int .i64 (zs.getD k 0)) := hcell0
      clear hcell0
      have He := Lib.hid fun (h : L < 0 ∨ zs.getD k 0 < 0 ∨ L < zs.getD k 0) => fit_end HN.out Hf.out (.inr ⟨hlt, h⟩)
      have Hg := Lib.hid fun (h : ¬ (zs.getD k 0 < 0 ∨ L < zs.getD k 0)) => (show fitN b zs = k + 1 + fitN (L - zs.getD k 0) (zs.drop (k + 1)) by have := Hf.out; rw [drop_at zs hlt, fitN_go h] at this; omega)
      generalize zs.getD k 0 = z at hcell He Hg
      subst eA
      by_cases hL : L < 0
      · have hNk := He.out (.inl hL)
        subst hNk
        have hL0 : ¬ 0 ≤ L := by omega
        clear hL2 He Hg Hf
        go_wp2
        go_loopw [6, 11] (fun _ i wr => ∃ k : Nat, k ≤ zs.length ∧ i = .int .i64 k ∧ Below w1.heap.size w1 wr) (fun _ i _ => zs.length - (intOf i).toNat)
        case atStart => exact ⟨0, Nat.zero_le _, rfl, Below.refl _ _⟩
        case round =>
          obtain ⟨j, hj, rfl, hbr⟩ := hrel
          by_cases hjl : j < zs.length
          · obtain ⟨g2, off2, rfl, _, hc2⟩ := (hrwas.below hbr).at_ hjl
            obtain ⟨g1, off1, e1, _, hc1⟩ := (hrw1.below hbr).at_ hjl
            injection e1 with e1; injection e1 with e1 e2; subst e1; subst e2
            generalize zs.getD j 0 = y at hc1 hc2
            go_wp2
            go_region
            all_goals
              go_wp2
              go_roundw
              case rel => exact ⟨j + 1, by omega, by go_num, hbr.drew⟩
              case measure => simp [intOf]; omega
          · have hj9 : j = zs.length := by omega
            subst hj9
            go_wp2_with fail
            refine (KL.out _).mono ?_
            rintro e w8 ⟨rfl, b8⟩
            go_wp2
            go_ret
            exact ⟨rfl, (hb1.trans (hbr.mono hb1.size)).trans (b8.mono (hb1.trans (hbr.mono hb1.size)).size)⟩
      · have hL0 : 0 ≤ L := by omega
        by_cases hz : z < 0
        · have hNk := He.out (.inr (.inl hz))
          subst hNk
          have hz0 : ¬ 0 ≤ z := by omega
          clear hL2 He Hg Hf
          go_wp2
          go_loopw [6, 11] (fun _ i wr => ∃ k : Nat, k ≤ zs.length ∧ i = .int .i64 k ∧ Below w1.heap.size w1 wr) (fun _ i _ => zs.length - (intOf i).toNat)
          case atStart => exact ⟨0, Nat.zero_le _, rfl, Below.refl _ _⟩
          case round =>
            obtain ⟨j, hj, rfl, hbr⟩ := hrel
            by_cases hjl : j < zs.length
            · obtain ⟨g2, off2, rfl, _, hc2⟩ := (hrwas.below hbr).at_ hjl
              obtain ⟨g1, off1, e1, _, hc1⟩ := (hrw1.below hbr).at_ hjl
              injection e1 with e1; injection e1 with e1 e2; subst e1; subst e2
              generalize zs.getD j 0 = y at hc1 hc2
              go_wp2
              go_region
              all_goals
                go_wp2
                go_roundw
                case rel => exact ⟨j + 1, by omega, by go_num, hbr.drew⟩
                case measure => simp [intOf]; omega
            · have hj9 : j = zs.length := by omega
              subst hj9
              go_wp2_with fail
              refine (KL.out _).mono ?_
              rintro e w8 ⟨rfl, b8⟩
              go_wp2
              go_ret
              exact ⟨rfl, (hb1.trans (hbr.mono hb1.size)).trans (b8.mono (hb1.trans (hbr.mono hb1.size)).size)⟩
        · have hz0 : 0 ≤ z := by omega
          by_cases hzL : z ≤ L
          · have h1 : L - z ≤ b := by omega
            have h0 : 0 ≤ L - z := by omega
            clear hL2
            go_wp2
            go_round
            case rel => exact ⟨k + 1, L - z, by omega, by go_num, rfl, Hg.out (by omega), h1, .inr h0⟩
            case measure => simp [intOf]; omega
          · have hNk := He.out (.inr (.inr (by omega)))
            subst hNk
            clear hL2 He Hg Hf
            go_wp2
            go_loopw [6, 11] (fun _ i wr => ∃ k : Nat, k ≤ zs.length ∧ i = .int .i64 k ∧ Below w1.heap.size w1 wr) (fun _ i _ => zs.length - (intOf i).toNat)
            case atStart => exact ⟨0, Nat.zero_le _, rfl, Below.refl _ _⟩
            case round =>
              obtain ⟨j, hj, rfl, hbr⟩ := hrel
              by_cases hjl : j < zs.length
              · obtain ⟨g2, off2, rfl, _, hc2⟩ := (hrwas.below hbr).at_ hjl
                obtain ⟨g1, off1, e1, _, hc1⟩ := (hrw1.below hbr).at_ hjl
                injection e1 with e1; injection e1 with e1 e2; subst e1; subst e2
                generalize zs.getD j 0 = y at hc1 hc2
                go_wp2
                go_region
                all_goals
                  go_wp2
                  go_roundw
                  case rel => exact ⟨j + 1, by omega, by go_num, hbr.drew⟩
                  case measure => simp [intOf]; omega
              · have hj9 : j = zs.length := by omega
                subst hj9
                go_wp2_with fail
                refine (KL.out _).mono ?_
                rintro e w8 ⟨rfl, b8⟩
                go_wp2
                go_ret
                exact ⟨rfl, (hb1.trans (hbr.mono hb1.size)).trans (b8.mono (hb1.trans (hbr.mono hb1.size)).size)⟩
    · have hNk := fit_end HN.out Hf.out (.inl (show k = zs.length by omega))
      subst hNk
      have hk9 : ¬ (N : Int) < (zs.length : Int) := by omega
      clear hL2 Hf hlt
      go_wp2
      go_loopw [6, 11] (fun _ i wr => ∃ k : Nat, k ≤ zs.length ∧ i = .int .i64 k ∧ Below w1.heap.size w1 wr) (fun _ i _ => zs.length - (intOf i).toNat)
      case atStart => exact ⟨0, Nat.zero_le _, rfl, Below.refl _ _⟩
      case round =>
        obtain ⟨j, hj, rfl, hbr⟩ := hrel
        by_cases hjl : j < zs.length
        · obtain ⟨g2, off2, rfl, _, hc2⟩ := (hrwas.below hbr).at_ hjl
          obtain ⟨g1, off1, e1, _, hc1⟩ := (hrw1.below hbr).at_ hjl
          subst e1
          generalize zs.getD j 0 = y at hc1 hc2
          go_wp2
          go_region
          all_goals
            go_wp2
            go_roundw
            case rel => exact ⟨j + 1, by omega, by go_num, hbr.drew⟩
            case measure => simp [intOf]; omega
        · have hj9 : j = zs.length := by omega
          subst hj9
          go_wp2_with fail
          refine (KL.out _).mono ?_
          rintro e w8 ⟨rfl, b8⟩
          go_wp2
          go_ret
          exact ⟨rfl, (hb1.trans (hbr.mono hb1.size)).trans (b8.mono (hb1.trans (hbr.mono hb1.size)).size)⟩

theorem lawFit_any (w : World) (b : Int) (hb0 : -9223372036854775808 ≤ b) (hb9 : b ≤ 9223372036854775807) (m : Nat) (hm : m < 65536) (A : Option Addr) (c : Nat) (zs : List Int) (h : RdI w w.heap.size A c zs) :
    Calls Try.prog 6 #[.int .i64 b, .int .u16 (m : Int), .slice A zs.length c] w (ResB w true) := by
  by_cases hl : 200 < zs.length
  · exact lawFit_long w b m A c _ hl
  · by_cases h62 : b ≤ 4611686018427387904
    · exact lawFit_small w b hb0 hb9 h62 m hm A c zs h (by omega)
    · exact lawFit_great w b hb0 hb9 h62 m hm A c zs h (by omega)

end Go.Proofs.Ytkmjemaajgdoiaa
