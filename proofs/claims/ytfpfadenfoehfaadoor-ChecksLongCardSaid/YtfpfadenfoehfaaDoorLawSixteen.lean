/-
  Helper text: the walk of the law ChecksSixteen; no statement is proved here.
-/
import Derived.Test.YtfpfadenfoehfaaDoorRefC
import Derived.Test.YtfpfadenfoehfaaDoorReg
namespace Go.Proofs.YtfpfadenfoehfaaDoor
open Go Go.RowKit

theorem front_add (xs : List UInt8) : frontL (addL xs) = xs := by
  unfold frontL
  rw [addL_len, Nat.add_sub_cancel]
  unfold addL
  exact List.take_left' rfl
theorem last_add (xs : List UInt8) : lastL (addL xs) = chkL xs := by
  have h := chkL_lt xs
  unfold lastL
  rw [addL_len]
  have e1 : (addL xs).getD (xs.length + 2 - 2) 0 = UInt8.ofNat (chkL xs) := by simp [addL, List.getD]
  have e2 : (addL xs).getD (xs.length + 2 - 1) 0 = UInt8.ofNat (chkL xs / 256) := by
    rw [show xs.length + 2 - 1 = xs.length + 1 from by omega]
    simp [addL, List.getD]
  rw [e1, e2, UInt8.toNat_ofNat', UInt8.toNat_ofNat']
  omega
abbrev Cv (w : World) (A : Option Addr) (n c : Nat) (xs : List UInt8) : Prop := (convert 33 9 (.slice A n c)).run Tryd.prog w = .ok (strOf xs) w
theorem Rd.cv {w : World} {B c : Nat} {A : Option Addr} {xs : List UInt8} (h : Rd w B A c xs) : Cv w A xs.length c xs := h.str Tryd.underlying33 Tryd.underlying5 Tryd.underlying9
theorem Rd.cvs {w : World} {c : Nat} {A : Option Addr} {xs : List UInt8} (h : Rd w w.heap.size A c xs) : ∀ w', Gr w w' → Cv w' A xs.length c xs := fun _ hg => (h.below hg).cv

theorem tail_facts {w : World} {B B' c c2 : Nat} {A A2 : Option Addr} {xs zs : List UInt8} {y z : UInt8} (h1 : Rd w B A c xs) (h2 : Rd w B' A2 c2 zs) (hz : zs = xs ++ [y, z]) :
    Cv w A xs.length c xs ∧ (∀ W : World, (Instr.slice 33 (.slice A2 zs.length c2) none (some (.int .i64 (xs.length : Int))) none).run Tryd.prog W = .ok (.slice A2 xs.length c2) W) ∧ Cv w A2 xs.length c2 xs := by
  have hle := h2.le
  have hl : zs.length = xs.length + 2 := by rw [hz]; simp
  refine ⟨h1.cv, fun W => ?_, ?_⟩
  · have := slice_h A2 zs.length c2 (xs.length : Int) W (by omega) (by omega)
    rwa [Int.toNat_natCast] at this
  · have h3 := h2.take (k := xs.length) (by omega)
    rw [hz, List.take_left' rfl] at h3
    exact h3.cv

set_option maxHeartbeats 4000000 in
set_option maxRecDepth 100000 in
theorem lawSixteen_in (w : World) (hL : Laid w) (A : Option Addr) (c : Nat) (xs : List UInt8) (h : Rd w w.heap.size A c xs) (hl : xs.length ≤ 300) :
    Calls Tryd.prog 5 #[.slice A xs.length c] w (ResB w true) := by
  have t1 : ¬ (300 : Int) < (xs.length : Int) := by omega
  have cv0 := h.cv
  have K1 := Lib.hid (refSixteen_any w A c xs h (by omega))
  have K2 := Lib.hid fun W hLW hR => add_any W hLW A c xs hR (by omega)
  have hok : chkL (frontL (addL xs)) = lastL (addL xs) := by rw [front_add, last_add]
  have hal := addL_len xs
  have K3 := Lib.hid fun W hLW AA CC hR => check_ok W hLW AA CC (addL xs) hR (by omega) (by omega) hok
  have K4 := Lib.hid fun W hLW hR => sixteen_any W hLW A c xs hR
  rw [front_add] at K3
  have hq := chkL_lt xs
  have hadd : addL xs = xs ++ [UInt8.ofNat (chkL xs), UInt8.ofNat (chkL xs / 256)] := rfl
  have e1 : Value.int .u8 ((chkL xs : Int) % 256) = bv (UInt8.ofNat (chkL xs)) := by
    show Value.int .u8 _ = Value.int .u8 _
    rw [show ((UInt8.ofNat (chkL xs)).toNat : Int) = (chkL xs : Int) % 256 from by rw [UInt8.toNat_ofNat']; omega]
  have e2 : Value.int .u8 ((chkL xs : Int) / 256) = bv (UInt8.ofNat (chkL xs / 256)) := by
    show Value.int .u8 _ = Value.int .u8 _
    rw [show ((UInt8.ofNat (chkL xs / 256)).toNat : Int) = (chkL xs : Int) / 256 from by rw [UInt8.toNat_ofNat']; omega]
  generalize UInt8.ofNat (chkL xs) = y at e1 hadd
  generalize UInt8.ofNat (chkL xs / 256) = z at e2 hadd
  generalize addL xs = zs at K2 K3 hal hadd
  generalize chkL xs = q at K1 K4 hq e1 e2
  have HE1 := Lib.hid e1
  have HE2 := Lib.hid e2
  have Hal := Lib.hid hal
  have Hadd := Lib.hid hadd
  clear e1 e2 hal hadd hok
  go_enter Tryd.func5, Tryd.ntmps5
  go_wp2_with fail
  refine K1.out.mono ?_
  rintro e w1 ⟨rfl, b1⟩
  have r1 := h.belowTop b1
  go_wp2_with fail
  refine (K2.out _ (hL.below b1) r1).mono ?_
  rintro e w2 ⟨v2, rfl, own2, b2⟩
  obtain ⟨A2, c2, rfl, r2⟩ := Rd.of_own own2
  clear own2
  have b2 := b1.trans (b2.mono b1.size)
  go_wp2_with fail
  refine (K3.out _ (hL.below b2) A2 c2 r2).mono ?_
  rintro e w3 ⟨v3, rfl, own3, b3⟩
  have b23 := b3
  have b3 := b2.trans (b3.mono b2.size)
  have r3 := h.belowTop b3
  go_wp2_with fail
  refine (K4.out _ (hL.below b3) r3).mono ?_
  rintro e w4 ⟨rfl, b4⟩
  have own4 := own_below own3 b4
  have b24 := b23.trans (b4.mono b23.size)
  have b4 := b3.trans (b4.mono b3.size)
  obtain ⟨A3, c3, rfl, r5⟩ := Rd.of_own own4
  have cvz : (convert 33 9 (.slice A2 zs.length c2)).run Tryd.prog w4 = .ok (strOf zs) w4 := (r2.below b24).cv
  have w01 : IntKind.u64.wrap (q : Int) = (q : Int) := by rw [IntKind.wrap_u64]; omega
  have cvb : (convert 33 9 (.slice (some ⟨w4.heap.size, 0, none⟩) 2 2)).run Tryd.prog (w4.alloc (.cells #[.int .u8 ((q : Int) % 256), .int .u8 ((q : Int) / 256)] 5)) = .ok (strOf [y, z]) (w4.alloc (.cells #[.int .u8 ((q : Int) % 256), .int .u8 ((q : Int) / 256)] 5)) := by
    rw [HE1.out, HE2.out]
    exact (rd_top w4 5 [y, z] (by simp)).cv
  have cvx : (convert 33 9 (.slice A3 xs.length c3)).run Tryd.prog (w4.alloc (.cells #[.int .u8 ((q : Int) % 256), .int .u8 ((q : Int) / 256)] 5)) = .ok (strOf xs) (w4.alloc (.cells #[.int .u8 ((q : Int) % 256), .int .u8 ((q : Int) / 256)] 5)) := (r5.alloc (Nat.le_refl _) _).cv
  have hcat : ((⟨xs.toArray⟩ : ByteArray) ++ ⟨#[y, z]⟩) = ⟨zs.toArray⟩ := by
    rw [Hadd.out]
    apply ByteArray.ext
    simp
  go_wp2
  have b5 := b4.alloc b4.size (.cells #[.int .u8 ((q : Int) % 256), .int .u8 ((q : Int) / 256)] 5)
  have b25 := b24.alloc b24.size (.cells #[.int .u8 ((q : Int) % 256), .int .u8 ((q : Int) / 256)] 5)
  have own5 := own4.alloc (.cells #[.int .u8 ((q : Int) % 256), .int .u8 ((q : Int) / 256)] 5)
  have hsz : xs.length ≤ c3 := r5.le
  generalize w4.alloc (.cells #[.int .u8 ((q : Int) % 256), .int .u8 ((q : Int) / 256)] 5) = w5 at b5 b25 own5 cvb cvx ⊢
  clear cvb cvx cvz cv0 own3 own4 b3 b4 b23 b24 r1 r3 r5 K1 K2 K3 K4 HE1 HE2 hcat w01
  go_loopw [8] (fun i wr => ∃ k : Nat, k ≤ xs.length ∧ i = .int .i64 k ∧ (∃ ys : List UInt8, ys.length = xs.length ∧ wr.ownsRow w2.heap.size 5 1 (.slice A3 xs.length c3) ys.length (ys.map bv)) ∧ Below w2.heap.size w2 wr) (fun i _ => xs.length - (intOf i).toNat)
  case atStart => exact ⟨0, Nat.zero_le _, rfl, ⟨xs, rfl, own5⟩, b25⟩
  case round =>
    obtain ⟨k, hk, rfl, ⟨ys, hys, hown⟩, hb⟩ := hrel
    by_cases hlt : k < xs.length
    · obtain ⟨g, cc, e, hg, hf, hc, hst⟩ := own_store hown (by omega)
      injection e with eA eN eC
      subst eA
      have c1 : wr.cell? ⟨g, k, none⟩ = some (.int .u8 ((ys.getD k 0).toNat : Int)) := hc k (by omega)
      have f1 := hf k
      have hs1 := hst k (ys.getD k 0 + 1) (by omega)
      have ev : bv (ys.getD k 0 + 1) = .int .u8 ((((ys.getD k 0).toNat : Int) + 1) % 256) := by
        show Value.int .u8 _ = _
        rw [UInt8.toNat_add, show ((1 : UInt8).toNat) = 1 from rfl]
        congr 1
      rw [ev] at hs1
      have hy8 := (ys.getD k 0).toNat_lt
      generalize (ys.getD k 0).toNat = x at c1 hs1 hy8
      have Hs1 := Lib.hid hs1
      have Hys := Lib.hid hys
      clear hs1 ev hst hc hys hown
      go_wp2
      go_roundw
      case rel => exact ⟨k + 1, by omega, by go_num, ⟨_, by rw [List.length_set]; exact Hys.out, Hs1.out⟩, hb.setCell hg _⟩
      case measure => simp [intOf]; omega
    · have hk9 : k = xs.length := by omega
      subst hk9
      have hb' := b2.trans (hb.mono b2.size)
      have r6 := h.belowTop hb'
      have r7 : Rd wr w2.heap.size A2 c2 zs := r2.below hb
      clear hown hys
      rcases Nat.lt_or_ge xs.length 2 with h2 | h2
      · go_wp2_with fail
        refine (check_width wr A c xs h2).mono ?_
        rintro e w6 ⟨v6, rfl, own6, b6⟩
        obtain ⟨A6, c6, rfl, r8⟩ := Rd.of_own own6
        have q1 := r6.belowTop b6
        have q2 := r7.below (b6.mono hb.size)
        have b7 := hb'.trans (b6.mono hb'.size)
        have h2i : (xs.length : Int) < 2 := by omega
        go_wp2
        go_region
        obtain ⟨f1, f2, f3⟩ := tail_facts q1.drew q2.drew Hadd.out
        have hge : (xs.length : Int) ≤ (zs.length : Int) := by rw [Hal.out]; omega
        go_wp2_with fail
        refine (lives_any _ (hL.below b7.drew)).mono ?_
        rintro e w7 ⟨rfl, b8⟩
        go_wp2
        go_ret
        exact ⟨rfl, b7.drew.trans (b8.mono b7.drew.size)⟩
      · have hfl : (frontL xs).length = xs.length - 2 := by unfold frontL; rw [List.length_take]; omega
        have hle := h.le
        have hcap := h.cap
        have hsl := fun W : World => slice_h A xs.length c (((frontL xs).length : Nat) : Int) W (by omega) (by omega)
        rw [Int.toNat_natCast] at hsl
        have hrf : Rd w w.heap.size A c (frontL xs) := h.take (by omega)
        obtain ⟨b, off, hA, hbB, hcell⟩ := h.cells (by omega)
        have hc1 : ∀ W, Below w.heap.size w W → W.cell? ⟨b, off + (frontL xs).length, none⟩ = some (.int .u8 (((xs.getD (xs.length - 2) 0).toNat : Nat) : Int)) := fun W hg => by
          have := (Below.cell (p := ⟨b, off + (frontL xs).length, none⟩) hg hbB).trans (hcell (frontL xs).length (by omega))
          rw [hfl] at this ⊢
          exact this
        have hc2 : ∀ W, Below w.heap.size w W → W.cell? ⟨b, off + ((frontL xs).length + 1), none⟩ = some (.int .u8 (((xs.getD (xs.length - 1) 0).toNat : Nat) : Int)) := fun W hg => by
          have := (Below.cell (p := ⟨b, off + ((frontL xs).length + 1), none⟩) hg hbB).trans (hcell ((frontL xs).length + 1) (by omega))
          rw [show (frontL xs).length + 1 = xs.length - 1 from by omega] at this ⊢
          exact this
        have hx : (xs.getD (xs.length - 2) 0).toNat < 256 := (xs.getD (xs.length - 2) 0).toNat_lt
        have hy : (xs.getD (xs.length - 1) 0).toNat < 256 := (xs.getD (xs.length - 1) 0).toNat_lt
        have hT : lastL xs = (xs.getD (xs.length - 2) 0).toNat + 256 * (xs.getD (xs.length - 1) 0).toNat := rfl
        have KR := fun W (hR : Rd W W.heap.size A c (frontL xs)) => refSixteen_any W A c (frontL xs) hR (by omega)
        have hq2 := chkL_lt (frontL xs)
        obtain ⟨J, E, hJ⟩ : ∃ (J : List UInt8) (E : Int), (chkL (frontL xs) = lastL xs ∧ J = frontL xs ∧ E = 0) ∨ (chkL (frontL xs) ≠ lastL xs ∧ J = [] ∧ E = 10) := by
          by_cases hh : chkL (frontL xs) = lastL xs
          · exact ⟨_, _, .inl ⟨hh, rfl, rfl⟩⟩
          · exact ⟨_, _, .inr ⟨hh, rfl, rfl⟩⟩
        have KC := check_core wr (hL.below hb') A c xs r6 h2 (by omega) J E hJ
        have hstr : (⟨xs.toArray⟩ : ByteArray).extract 0 (frontL xs).length = ⟨(frontL xs).toArray⟩ := by
          apply ByteArray.ext
          unfold frontL
          rw [ByteArray.data_extract, List.length_take, Nat.min_eq_left (by omega)]
          simp
        generalize (xs.getD (xs.length - 2) 0).toNat = x at hc1 hx hT
        generalize (xs.getD (xs.length - 1) 0).toNat = y2 at hc2 hy hT
        generalize lastL xs = T at hT hJ
        generalize chkL (frontL xs) = q2 at KR hJ hq2
        generalize frontL xs = fs at hJ hsl KR hrf hc1 hc2 hfl hstr
        have HJ := Lib.hid hJ
        have HR := Lib.hid KR
        have HSl := Lib.hid hsl
        have HC1 := Lib.hid hc1
        have HC2 := Lib.hid hc2
        have HStr := Lib.hid hstr
        have HKC := Lib.hid KC
        have HT := Lib.hid hT
        have HH1 := Lib.hid (show (xs.length : Int) - 2 = (fs.length : Int) by omega)
        clear hJ KR hsl hc1 hc2 hstr KC hfl hcell hT
        subst hA
        go_wp2_with fail
        refine HKC.out.mono ?_
        rintro e w6 ⟨v6, rfl, own6, b6⟩
        obtain ⟨A6, c6, rfl, r8⟩ := Rd.of_own own6
        have q1 := r6.belowTop b6
        have q2' := r7.below (b6.mono hb.size)
        have b7 := hb'.trans (b6.mono hb'.size)
        have h2i : (2 : Int) ≤ (xs.length : Int) := by omega
        have h7 := HH1.out
        clear own6
        go_wp2
        clear h2i h7
        refine startG 18 (l := #[false, false, false, false, false, false, false, false, false, false, false, false, false, false, false, false, false, false]) (by kernel_rfl) rfl rfl ?_
        have bd := b7.drew
        have rd8 : Rd w6.drew w6.drew.heap.size A6 c6 J := r8.drew
        have qd1 : Rd w6.drew w6.drew.heap.size (some ⟨b, off, none⟩) c xs := q1.drew
        have qd2 := q2'.drew
        have rfd := (hrf.belowTop bd)
        have hs27 : w2.heap.size ≤ w6.drew.heap.size := Nat.le_trans hb.size b6.size
        generalize w6.drew = w7 at bd rd8 qd1 qd2 rfd hs27 ⊢
        have hc1 := fun W (hg : Gr w7 W) => HC1.out W (bd.trans (Below.mono hg bd.size))
        have hc2 := fun W (hg : Gr w7 W) => HC2.out W (bd.trans (Below.mono hg bd.size))
        have hsl := HSl.out
        have i0 := HH1.out
        have i1 : IntKind.i64.wrap ((fs.length : Int) + 1) = (fs.length : Int) + 1 := by rw [IntWalk.i64_in _ (by omega)]
        have i2 : (fs.length : Int) + 1 < (xs.length : Int) := by omega
        have i3 : ((fs.length : Int) + 1).toNat = fs.length + 1 := by omega
        have i4 : (fs.length : Int) < (xs.length : Int) := by omega
        have i5 : (0 : Int) ≤ (fs.length : Int) + 1 := by omega
        clear i0
        have w1' : IntKind.u64.wrap (x : Int) = (x : Int) := by rw [IntKind.wrap_u64]; omega
        have w2' : IntKind.u64.wrap (y2 : Int) = (y2 : Int) := by rw [IntKind.wrap_u64]; omega
        have w3' : IntKind.u64.wrap (256 * (y2 : Int)) = 256 * (y2 : Int) := by rw [IntKind.wrap_u64]; omega
        have w4' : IntKind.u64.wrap ((x : Int) + 256 * (y2 : Int)) = (T : Int) := by have := HT.out; rw [IntKind.wrap_u64]; omega
        ((first | (refine takeG 0 (v := ?_) rfl (by decide +kernel) (by decide +kernel) (by decide +kernel) (fun _ _ _ h => h) (Or.inl ⟨by rfl, ?_⟩) ?_; rotate_left 1; (focus (intro W hW; go_simp; first | done | with_reducible rfl)); try simp only [Act.put, List.setIfInBounds_toArray, List.set_cons_zero, List.set_cons_succ]) | (refine takeG 0 rfl (by decide +kernel) (by decide +kernel) (by decide +kernel) (fun _ _ _ h => h) (Or.inr ⟨by rfl, rfl⟩) ?_; try simp only [Act.put, List.setIfInBounds_toArray, List.set_cons_zero, List.set_cons_succ]) | skip); (first | (refine takeG 1 (v := ?_) rfl (by decide +kernel) (by decide +kernel) (by decide +kernel) (fun _ _ _ h => h) (Or.inl ⟨by rfl, ?_⟩) ?_; rotate_left 1; (focus (intro W hW; go_simp; first | done | with_reducible rfl)); try simp only [Act.put, List.setIfInBounds_toArray, List.set_cons_zero, List.set_cons_succ]) | (refine takeG 1 rfl (by decide +kernel) (by decide +kernel) (by decide +kernel) (fun _ _ _ h => h) (Or.inr ⟨by rfl, rfl⟩) ?_; try simp only [Act.put, List.setIfInBounds_toArray, List.set_cons_zero, List.set_cons_succ]) | skip); (first | (refine takeG 2 (v := ?_) rfl (by decide +kernel) (by decide +kernel) (by decide +kernel) (fun _ _ _ h => h) (Or.inl ⟨by rfl, ?_⟩) ?_; rotate_left 1; (focus (intro W hW; go_simp; first | done | with_reducible rfl)); try simp only [Act.put, List.setIfInBounds_toArray, List.set_cons_zero, List.set_cons_succ]) | (refine takeG 2 rfl (by decide +kernel) (by decide +kernel) (by decide +kernel) (fun _ _ _ h => h) (Or.inr ⟨by rfl, rfl⟩) ?_; try simp only [Act.put, List.setIfInBounds_toArray, List.set_cons_zero, List.set_cons_succ]) | skip); (first | (refine takeG 4 (v := ?_) rfl (by decide +kernel) (by decide +kernel) (by decide +kernel) (fun _ _ _ h => h) (Or.inl ⟨by rfl, ?_⟩) ?_; rotate_left 1; (focus (intro W hW; go_simp; first | done | with_reducible rfl)); try simp only [Act.put, List.setIfInBounds_toArray, List.set_cons_zero, List.set_cons_succ]) | (refine takeG 4 rfl (by decide +kernel) (by decide +kernel) (by decide +kernel) (fun _ _ _ h => h) (Or.inr ⟨by rfl, rfl⟩) ?_; try simp only [Act.put, List.setIfInBounds_toArray, List.set_cons_zero, List.set_cons_succ]) | skip); (first | (refine takeG 5 (v := ?_) rfl (by decide +kernel) (by decide +kernel) (by decide +kernel) (fun _ _ _ h => h) (Or.inl ⟨by rfl, ?_⟩) ?_; rotate_left 1; (focus (intro W hW; go_simp; first | done | with_reducible rfl)); try simp only [Act.put, List.setIfInBounds_toArray, List.set_cons_zero, List.set_cons_succ]) | (refine takeG 5 rfl (by decide +kernel) (by decide +kernel) (by decide +kernel) (fun _ _ _ h => h) (Or.inr ⟨by rfl, rfl⟩) ?_; try simp only [Act.put, List.setIfInBounds_toArray, List.set_cons_zero, List.set_cons_succ]) | skip); (first | (refine takeG 6 (v := ?_) rfl (by decide +kernel) (by decide +kernel) (by decide +kernel) (fun _ _ _ h => h) (Or.inl ⟨by rfl, ?_⟩) ?_; rotate_left 1; (focus (intro W hW; go_simp; first | done | with_reducible rfl)); try simp only [Act.put, List.setIfInBounds_toArray, List.set_cons_zero, List.set_cons_succ]) | (refine takeG 6 rfl (by decide +kernel) (by decide +kernel) (by decide +kernel) (fun _ _ _ h => h) (Or.inr ⟨by rfl, rfl⟩) ?_; try simp only [Act.put, List.setIfInBounds_toArray, List.set_cons_zero, List.set_cons_succ]) | skip); (first | (refine takeG 7 (v := ?_) rfl (by decide +kernel) (by decide +kernel) (by decide +kernel) (fun _ _ _ h => h) (Or.inl ⟨by rfl, ?_⟩) ?_; rotate_left 1; (focus (intro W hW; go_simp; first | done | with_reducible rfl)); try simp only [Act.put, List.setIfInBounds_toArray, List.set_cons_zero, List.set_cons_succ]) | (refine takeG 7 rfl (by decide +kernel) (by decide +kernel) (by decide +kernel) (fun _ _ _ h => h) (Or.inr ⟨by rfl, rfl⟩) ?_; try simp only [Act.put, List.setIfInBounds_toArray, List.set_cons_zero, List.set_cons_succ]) | skip); (first | (refine takeG 8 (v := ?_) rfl (by decide +kernel) (by decide +kernel) (by decide +kernel) (fun _ _ _ h => h) (Or.inl ⟨by rfl, ?_⟩) ?_; rotate_left 1; (focus (intro W hW; go_simp; first | done | with_reducible rfl)); try simp only [Act.put, List.setIfInBounds_toArray, List.set_cons_zero, List.set_cons_succ]) | (refine takeG 8 rfl (by decide +kernel) (by decide +kernel) (by decide +kernel) (fun _ _ _ h => h) (Or.inr ⟨by rfl, rfl⟩) ?_; try simp only [Act.put, List.setIfInBounds_toArray, List.set_cons_zero, List.set_cons_succ]) | skip); (first | (refine takeG 9 (v := ?_) rfl (by decide +kernel) (by decide +kernel) (by decide +kernel) (fun _ _ _ h => h) (Or.inl ⟨by rfl, ?_⟩) ?_; rotate_left 1; (focus (intro W hW; go_simp; first | done | with_reducible rfl)); try simp only [Act.put, List.setIfInBounds_toArray, List.set_cons_zero, List.set_cons_succ]) | (refine takeG 9 rfl (by decide +kernel) (by decide +kernel) (by decide +kernel) (fun _ _ _ h => h) (Or.inr ⟨by rfl, rfl⟩) ?_; try simp only [Act.put, List.setIfInBounds_toArray, List.set_cons_zero, List.set_cons_succ]) | skip); (first | (refine takeG 10 (v := ?_) rfl (by decide +kernel) (by decide +kernel) (by decide +kernel) (fun _ _ _ h => h) (Or.inl ⟨by rfl, ?_⟩) ?_; rotate_left 1; (focus (intro W hW; go_simp; first | done | with_reducible rfl)); try simp only [Act.put, List.setIfInBounds_toArray, List.set_cons_zero, List.set_cons_succ]) | (refine takeG 10 rfl (by decide +kernel) (by decide +kernel) (by decide +kernel) (fun _ _ _ h => h) (Or.inr ⟨by rfl, rfl⟩) ?_; try simp only [Act.put, List.setIfInBounds_toArray, List.set_cons_zero, List.set_cons_succ]) | skip); (first | (refine takeG 11 (v := ?_) rfl (by decide +kernel) (by decide +kernel) (by decide +kernel) (fun _ _ _ h => h) (Or.inl ⟨by rfl, ?_⟩) ?_; rotate_left 1; (focus (intro W hW; go_simp; first | done | with_reducible rfl)); try simp only [Act.put, List.setIfInBounds_toArray, List.set_cons_zero, List.set_cons_succ]) | (refine takeG 11 rfl (by decide +kernel) (by decide +kernel) (by decide +kernel) (fun _ _ _ h => h) (Or.inr ⟨by rfl, rfl⟩) ?_; try simp only [Act.put, List.setIfInBounds_toArray, List.set_cons_zero, List.set_cons_succ]) | skip); (first | (refine takeG 12 (v := ?_) rfl (by decide +kernel) (by decide +kernel) (by decide +kernel) (fun _ _ _ h => h) (Or.inl ⟨by rfl, ?_⟩) ?_; rotate_left 1; (focus (intro W hW; go_simp; first | done | with_reducible rfl)); try simp only [Act.put, List.setIfInBounds_toArray, List.set_cons_zero, List.set_cons_succ]) | (refine takeG 12 rfl (by decide +kernel) (by decide +kernel) (by decide +kernel) (fun _ _ _ h => h) (Or.inr ⟨by rfl, rfl⟩) ?_; try simp only [Act.put, List.setIfInBounds_toArray, List.set_cons_zero, List.set_cons_succ]) | skip); (first | (refine takeG 13 (v := ?_) rfl (by decide +kernel) (by decide +kernel) (by decide +kernel) (fun _ _ _ h => h) (Or.inl ⟨by rfl, ?_⟩) ?_; rotate_left 1; (focus (intro W hW; go_simp; first | done | with_reducible rfl)); try simp only [Act.put, List.setIfInBounds_toArray, List.set_cons_zero, List.set_cons_succ]) | (refine takeG 13 rfl (by decide +kernel) (by decide +kernel) (by decide +kernel) (fun _ _ _ h => h) (Or.inr ⟨by rfl, rfl⟩) ?_; try simp only [Act.put, List.setIfInBounds_toArray, List.set_cons_zero, List.set_cons_succ]) | skip); (first | (refine takeG 14 (v := ?_) rfl (by decide +kernel) (by decide +kernel) (by decide +kernel) (fun _ _ _ h => h) (Or.inl ⟨by rfl, ?_⟩) ?_; rotate_left 1; (focus (intro W hW; go_simp; first | done | with_reducible rfl)); try simp only [Act.put, List.setIfInBounds_toArray, List.set_cons_zero, List.set_cons_succ]) | (refine takeG 14 rfl (by decide +kernel) (by decide +kernel) (by decide +kernel) (fun _ _ _ h => h) (Or.inr ⟨by rfl, rfl⟩) ?_; try simp only [Act.put, List.setIfInBounds_toArray, List.set_cons_zero, List.set_cons_succ]) | skip); (first | (refine takeG 15 (v := ?_) rfl (by decide +kernel) (by decide +kernel) (by decide +kernel) (fun _ _ _ h => h) (Or.inl ⟨by rfl, ?_⟩) ?_; rotate_left 1; (focus (intro W hW; go_simp; first | done | with_reducible rfl)); try simp only [Act.put, List.setIfInBounds_toArray, List.set_cons_zero, List.set_cons_succ]) | (refine takeG 15 rfl (by decide +kernel) (by decide +kernel) (by decide +kernel) (fun _ _ _ h => h) (Or.inr ⟨by rfl, rfl⟩) ?_; try simp only [Act.put, List.setIfInBounds_toArray, List.set_cons_zero, List.set_cons_succ]) | skip); (first | (refine takeG 16 (v := ?_) rfl (by decide +kernel) (by decide +kernel) (by decide +kernel) (fun _ _ _ h => h) (Or.inl ⟨by rfl, ?_⟩) ?_; rotate_left 1; (focus (intro W hW; go_simp; first | done | with_reducible rfl)); try simp only [Act.put, List.setIfInBounds_toArray, List.set_cons_zero, List.set_cons_succ]) | (refine takeG 16 rfl (by decide +kernel) (by decide +kernel) (by decide +kernel) (fun _ _ _ h => h) (Or.inr ⟨by rfl, rfl⟩) ?_; try simp only [Act.put, List.setIfInBounds_toArray, List.set_cons_zero, List.set_cons_succ]) | skip); (first | (refine takeG 17 (v := ?_) rfl (by decide +kernel) (by decide +kernel) (by decide +kernel) (fun _ _ _ h => h) (Or.inl ⟨by rfl, ?_⟩) ?_; rotate_left 1; (focus (intro W hW; go_simp; first | done | with_reducible rfl)); try simp only [Act.put, List.setIfInBounds_toArray, List.set_cons_zero, List.set_cons_succ]) | (refine takeG 17 rfl (by decide +kernel) (by decide +kernel) (by decide +kernel) (fun _ _ _ h => h) (Or.inr ⟨by rfl, rfl⟩) ?_; try simp only [Act.put, List.setIfInBounds_toArray, List.set_cons_zero, List.set_cons_succ]) | skip))
        refine stepG 3 rfl (by decide +kernel) (by rfl) ?_
        intro K hK
        go_simp
        refine (HR.out _ rfd).mono ?_
        rintro e w8 ⟨rfl, b8⟩
        refine hK _ _ b8 ?_
        clear hK K
        try simp only [Act.put, List.setIfInBounds_toArray, List.set_cons_zero, List.set_cons_succ]
        have bd8 := bd.trans (b8.mono bd.size)
        have rd9 := rd8.belowTop b8
        have qd3 := qd1.belowTop b8
        have qd4 := qd2.below (b8.mono hs27)
        rcases HJ.out with ⟨rfl, rfl, rfl⟩ | ⟨hcT, rfl, rfl⟩
        · have t1 : ((q2 : Int) == (q2 : Int)) = true := beq_self_eq_true _
          have t3 : ((q2 : Int) != (q2 : Int)) = false := by rw [bne, t1]; rfl
          ((first | (refine takeG 4 (v := ?_) rfl (by decide +kernel) (by decide +kernel) (by decide +kernel) (fun _ _ _ h => h) (Or.inl ⟨by rfl, ?_⟩) ?_; rotate_left 1; (focus (intro W hW; go_simp; first | done | with_reducible rfl)); try simp only [Act.put, List.setIfInBounds_toArray, List.set_cons_zero, List.set_cons_succ]) | (refine takeG 4 rfl (by decide +kernel) (by decide +kernel) (by decide +kernel) (fun _ _ _ h => h) (Or.inr ⟨by rfl, rfl⟩) ?_; try simp only [Act.put, List.setIfInBounds_toArray, List.set_cons_zero, List.set_cons_succ]) | skip); (first | (refine takeG 5 (v := ?_) rfl (by decide +kernel) (by decide +kernel) (by decide +kernel) (fun _ _ _ h => h) (Or.inl ⟨by rfl, ?_⟩) ?_; rotate_left 1; (focus (intro W hW; go_simp; first | done | with_reducible rfl)); try simp only [Act.put, List.setIfInBounds_toArray, List.set_cons_zero, List.set_cons_succ]) | (refine takeG 5 rfl (by decide +kernel) (by decide +kernel) (by decide +kernel) (fun _ _ _ h => h) (Or.inr ⟨by rfl, rfl⟩) ?_; try simp only [Act.put, List.setIfInBounds_toArray, List.set_cons_zero, List.set_cons_succ]) | skip); (first | (refine takeG 6 (v := ?_) rfl (by decide +kernel) (by decide +kernel) (by decide +kernel) (fun _ _ _ h => h) (Or.inl ⟨by rfl, ?_⟩) ?_; rotate_left 1; (focus (intro W hW; go_simp; first | done | with_reducible rfl)); try simp only [Act.put, List.setIfInBounds_toArray, List.set_cons_zero, List.set_cons_succ]) | (refine takeG 6 rfl (by decide +kernel) (by decide +kernel) (by decide +kernel) (fun _ _ _ h => h) (Or.inr ⟨by rfl, rfl⟩) ?_; try simp only [Act.put, List.setIfInBounds_toArray, List.set_cons_zero, List.set_cons_succ]) | skip); (first | (refine takeG 7 (v := ?_) rfl (by decide +kernel) (by decide +kernel) (by decide +kernel) (fun _ _ _ h => h) (Or.inl ⟨by rfl, ?_⟩) ?_; rotate_left 1; (focus (intro W hW; go_simp; first | done | with_reducible rfl)); try simp only [Act.put, List.setIfInBounds_toArray, List.set_cons_zero, List.set_cons_succ]) | (refine takeG 7 rfl (by decide +kernel) (by decide +kernel) (by decide +kernel) (fun _ _ _ h => h) (Or.inr ⟨by rfl, rfl⟩) ?_; try simp only [Act.put, List.setIfInBounds_toArray, List.set_cons_zero, List.set_cons_succ]) | skip); (first | (refine takeG 8 (v := ?_) rfl (by decide +kernel) (by decide +kernel) (by decide +kernel) (fun _ _ _ h => h) (Or.inl ⟨by rfl, ?_⟩) ?_; rotate_left 1; (focus (intro W hW; go_simp; first | done | with_reducible rfl)); try simp only [Act.put, List.setIfInBounds_toArray, List.set_cons_zero, List.set_cons_succ]) | (refine takeG 8 rfl (by decide +kernel) (by decide +kernel) (by decide +kernel) (fun _ _ _ h => h) (Or.inr ⟨by rfl, rfl⟩) ?_; try simp only [Act.put, List.setIfInBounds_toArray, List.set_cons_zero, List.set_cons_succ]) | skip); (first | (refine takeG 9 (v := ?_) rfl (by decide +kernel) (by decide +kernel) (by decide +kernel) (fun _ _ _ h => h) (Or.inl ⟨by rfl, ?_⟩) ?_; rotate_left 1; (focus (intro W hW; go_simp; first | done | with_reducible rfl)); try simp only [Act.put, List.setIfInBounds_toArray, List.set_cons_zero, List.set_cons_succ]) | (refine takeG 9 rfl (by decide +kernel) (by decide +kernel) (by decide +kernel) (fun _ _ _ h => h) (Or.inr ⟨by rfl, rfl⟩) ?_; try simp only [Act.put, List.setIfInBounds_toArray, List.set_cons_zero, List.set_cons_succ]) | skip); (first | (refine takeG 10 (v := ?_) rfl (by decide +kernel) (by decide +kernel) (by decide +kernel) (fun _ _ _ h => h) (Or.inl ⟨by rfl, ?_⟩) ?_; rotate_left 1; (focus (intro W hW; go_simp; first | done | with_reducible rfl)); try simp only [Act.put, List.setIfInBounds_toArray, List.set_cons_zero, List.set_cons_succ]) | (refine takeG 10 rfl (by decide +kernel) (by decide +kernel) (by decide +kernel) (fun _ _ _ h => h) (Or.inr ⟨by rfl, rfl⟩) ?_; try simp only [Act.put, List.setIfInBounds_toArray, List.set_cons_zero, List.set_cons_succ]) | skip); (first | (refine takeG 11 (v := ?_) rfl (by decide +kernel) (by decide +kernel) (by decide +kernel) (fun _ _ _ h => h) (Or.inl ⟨by rfl, ?_⟩) ?_; rotate_left 1; (focus (intro W hW; go_simp; first | done | with_reducible rfl)); try simp only [Act.put, List.setIfInBounds_toArray, List.set_cons_zero, List.set_cons_succ]) | (refine takeG 11 rfl (by decide +kernel) (by decide +kernel) (by decide +kernel) (fun _ _ _ h => h) (Or.inr ⟨by rfl, rfl⟩) ?_; try simp only [Act.put, List.setIfInBounds_toArray, List.set_cons_zero, List.set_cons_succ]) | skip); (first | (refine takeG 12 (v := ?_) rfl (by decide +kernel) (by decide +kernel) (by decide +kernel) (fun _ _ _ h => h) (Or.inl ⟨by rfl, ?_⟩) ?_; rotate_left 1; (focus (intro W hW; go_simp; first | done | with_reducible rfl)); try simp only [Act.put, List.setIfInBounds_toArray, List.set_cons_zero, List.set_cons_succ]) | (refine takeG 12 rfl (by decide +kernel) (by decide +kernel) (by decide +kernel) (fun _ _ _ h => h) (Or.inr ⟨by rfl, rfl⟩) ?_; try simp only [Act.put, List.setIfInBounds_toArray, List.set_cons_zero, List.set_cons_succ]) | skip); (first | (refine takeG 13 (v := ?_) rfl (by decide +kernel) (by decide +kernel) (by decide +kernel) (fun _ _ _ h => h) (Or.inl ⟨by rfl, ?_⟩) ?_; rotate_left 1; (focus (intro W hW; go_simp; first | done | with_reducible rfl)); try simp only [Act.put, List.setIfInBounds_toArray, List.set_cons_zero, List.set_cons_succ]) | (refine takeG 13 rfl (by decide +kernel) (by decide +kernel) (by decide +kernel) (fun _ _ _ h => h) (Or.inr ⟨by rfl, rfl⟩) ?_; try simp only [Act.put, List.setIfInBounds_toArray, List.set_cons_zero, List.set_cons_succ]) | skip); (first | (refine takeG 14 (v := ?_) rfl (by decide +kernel) (by decide +kernel) (by decide +kernel) (fun _ _ _ h => h) (Or.inl ⟨by rfl, ?_⟩) ?_; rotate_left 1; (focus (intro W hW; go_simp; first | done | with_reducible rfl)); try simp only [Act.put, List.setIfInBounds_toArray, List.set_cons_zero, List.set_cons_succ]) | (refine takeG 14 rfl (by decide +kernel) (by decide +kernel) (by decide +kernel) (fun _ _ _ h => h) (Or.inr ⟨by rfl, rfl⟩) ?_; try simp only [Act.put, List.setIfInBounds_toArray, List.set_cons_zero, List.set_cons_succ]) | skip); (first | (refine takeG 15 (v := ?_) rfl (by decide +kernel) (by decide +kernel) (by decide +kernel) (fun _ _ _ h => h) (Or.inl ⟨by rfl, ?_⟩) ?_; rotate_left 1; (focus (intro W hW; go_simp; first | done | with_reducible rfl)); try simp only [Act.put, List.setIfInBounds_toArray, List.set_cons_zero, List.set_cons_succ]) | (refine takeG 15 rfl (by decide +kernel) (by decide +kernel) (by decide +kernel) (fun _ _ _ h => h) (Or.inr ⟨by rfl, rfl⟩) ?_; try simp only [Act.put, List.setIfInBounds_toArray, List.set_cons_zero, List.set_cons_succ]) | skip); (first | (refine takeG 16 (v := ?_) rfl (by decide +kernel) (by decide +kernel) (by decide +kernel) (fun _ _ _ h => h) (Or.inl ⟨by rfl, ?_⟩) ?_; rotate_left 1; (focus (intro W hW; go_simp; first | done | with_reducible rfl)); try simp only [Act.put, List.setIfInBounds_toArray, List.set_cons_zero, List.set_cons_succ]) | (refine takeG 16 rfl (by decide +kernel) (by decide +kernel) (by decide +kernel) (fun _ _ _ h => h) (Or.inr ⟨by rfl, rfl⟩) ?_; try simp only [Act.put, List.setIfInBounds_toArray, List.set_cons_zero, List.set_cons_succ]) | skip); (first | (refine takeG 17 (v := ?_) rfl (by decide +kernel) (by decide +kernel) (by decide +kernel) (fun _ _ _ h => h) (Or.inl ⟨by rfl, ?_⟩) ?_; rotate_left 1; (focus (intro W hW; go_simp; first | done | with_reducible rfl)); try simp only [Act.put, List.setIfInBounds_toArray, List.set_cons_zero, List.set_cons_succ]) | (refine takeG 17 rfl (by decide +kernel) (by decide +kernel) (by decide +kernel) (fun _ _ _ h => h) (Or.inr ⟨by rfl, rfl⟩) ?_; try simp only [Act.put, List.setIfInBounds_toArray, List.set_cons_zero, List.set_cons_succ]) | skip))
          refine doneG (by kernel_rfl) ?_
          clear hc1 hc2 hsl i1 i2 i3 i4 i5 w1' w2' w3' w4' t1 t3
          have cJ : (convert 33 9 (.slice A6 J.length c6)).run Tryd.prog w8.drew = .ok (strOf J) w8.drew := rd9.drew.cv
          have h7 := HH1.out
          have h7w : IntKind.i64.wrap ((xs.length : Int) - 2) = (J.length : Int) := by rw [IntWalk.i64_in _ (by omega)]; omega
          have hst := HStr.out
          have h8 : (J.length : Int) ≤ (xs.length : Int) := by omega
          go_wp2
          go_region
          obtain ⟨f1, f2, f3⟩ := tail_facts qd3.drew qd4.drew Hadd.out
          have hge : (xs.length : Int) ≤ (zs.length : Int) := by rw [Hal.out]; omega
          go_wp2_with fail
          refine (lives_any _ (hL.below bd8.drew)).mono ?_
          rintro e w9 ⟨rfl, b9⟩
          go_wp2
          go_ret
          exact ⟨rfl, bd8.drew.trans (b9.mono bd8.drew.size)⟩
        · have t1 : ((q2 : Int) == (T : Int)) = false := by rw [beq_eq_false_iff_ne]; omega
          have t3 : ((q2 : Int) != (T : Int)) = true := by rw [bne, t1]; rfl
          ((first | (refine takeG 4 (v := ?_) rfl (by decide +kernel) (by decide +kernel) (by decide +kernel) (fun _ _ _ h => h) (Or.inl ⟨by rfl, ?_⟩) ?_; rotate_left 1; (focus (intro W hW; go_simp; first | done | with_reducible rfl)); try simp only [Act.put, List.setIfInBounds_toArray, List.set_cons_zero, List.set_cons_succ]) | (refine takeG 4 rfl (by decide +kernel) (by decide +kernel) (by decide +kernel) (fun _ _ _ h => h) (Or.inr ⟨by rfl, rfl⟩) ?_; try simp only [Act.put, List.setIfInBounds_toArray, List.set_cons_zero, List.set_cons_succ]) | skip); (first | (refine takeG 5 (v := ?_) rfl (by decide +kernel) (by decide +kernel) (by decide +kernel) (fun _ _ _ h => h) (Or.inl ⟨by rfl, ?_⟩) ?_; rotate_left 1; (focus (intro W hW; go_simp; first | done | with_reducible rfl)); try simp only [Act.put, List.setIfInBounds_toArray, List.set_cons_zero, List.set_cons_succ]) | (refine takeG 5 rfl (by decide +kernel) (by decide +kernel) (by decide +kernel) (fun _ _ _ h => h) (Or.inr ⟨by rfl, rfl⟩) ?_; try simp only [Act.put, List.setIfInBounds_toArray, List.set_cons_zero, List.set_cons_succ]) | skip); (first | (refine takeG 6 (v := ?_) rfl (by decide +kernel) (by decide +kernel) (by decide +kernel) (fun _ _ _ h => h) (Or.inl ⟨by rfl, ?_⟩) ?_; rotate_left 1; (focus (intro W hW; go_simp; first | done | with_reducible rfl)); try simp only [Act.put, List.setIfInBounds_toArray, List.set_cons_zero, List.set_cons_succ]) | (refine takeG 6 rfl (by decide +kernel) (by decide +kernel) (by decide +kernel) (fun _ _ _ h => h) (Or.inr ⟨by rfl, rfl⟩) ?_; try simp only [Act.put, List.setIfInBounds_toArray, List.set_cons_zero, List.set_cons_succ]) | skip); (first | (refine takeG 7 (v := ?_) rfl (by decide +kernel) (by decide +kernel) (by decide +kernel) (fun _ _ _ h => h) (Or.inl ⟨by rfl, ?_⟩) ?_; rotate_left 1; (focus (intro W hW; go_simp; first | done | with_reducible rfl)); try simp only [Act.put, List.setIfInBounds_toArray, List.set_cons_zero, List.set_cons_succ]) | (refine takeG 7 rfl (by decide +kernel) (by decide +kernel) (by decide +kernel) (fun _ _ _ h => h) (Or.inr ⟨by rfl, rfl⟩) ?_; try simp only [Act.put, List.setIfInBounds_toArray, List.set_cons_zero, List.set_cons_succ]) | skip); (first | (refine takeG 8 (v := ?_) rfl (by decide +kernel) (by decide +kernel) (by decide +kernel) (fun _ _ _ h => h) (Or.inl ⟨by rfl, ?_⟩) ?_; rotate_left 1; (focus (intro W hW; go_simp; first | done | with_reducible rfl)); try simp only [Act.put, List.setIfInBounds_toArray, List.set_cons_zero, List.set_cons_succ]) | (refine takeG 8 rfl (by decide +kernel) (by decide +kernel) (by decide +kernel) (fun _ _ _ h => h) (Or.inr ⟨by rfl, rfl⟩) ?_; try simp only [Act.put, List.setIfInBounds_toArray, List.set_cons_zero, List.set_cons_succ]) | skip); (first | (refine takeG 9 (v := ?_) rfl (by decide +kernel) (by decide +kernel) (by decide +kernel) (fun _ _ _ h => h) (Or.inl ⟨by rfl, ?_⟩) ?_; rotate_left 1; (focus (intro W hW; go_simp; first | done | with_reducible rfl)); try simp only [Act.put, List.setIfInBounds_toArray, List.set_cons_zero, List.set_cons_succ]) | (refine takeG 9 rfl (by decide +kernel) (by decide +kernel) (by decide +kernel) (fun _ _ _ h => h) (Or.inr ⟨by rfl, rfl⟩) ?_; try simp only [Act.put, List.setIfInBounds_toArray, List.set_cons_zero, List.set_cons_succ]) | skip); (first | (refine takeG 10 (v := ?_) rfl (by decide +kernel) (by decide +kernel) (by decide +kernel) (fun _ _ _ h => h) (Or.inl ⟨by rfl, ?_⟩) ?_; rotate_left 1; (focus (intro W hW; go_simp; first | done | with_reducible rfl)); try simp only [Act.put, List.setIfInBounds_toArray, List.set_cons_zero, List.set_cons_succ]) | (refine takeG 10 rfl (by decide +kernel) (by decide +kernel) (by decide +kernel) (fun _ _ _ h => h) (Or.inr ⟨by rfl, rfl⟩) ?_; try simp only [Act.put, List.setIfInBounds_toArray, List.set_cons_zero, List.set_cons_succ]) | skip); (first | (refine takeG 11 (v := ?_) rfl (by decide +kernel) (by decide +kernel) (by decide +kernel) (fun _ _ _ h => h) (Or.inl ⟨by rfl, ?_⟩) ?_; rotate_left 1; (focus (intro W hW; go_simp; first | done | with_reducible rfl)); try simp only [Act.put, List.setIfInBounds_toArray, List.set_cons_zero, List.set_cons_succ]) | (refine takeG 11 rfl (by decide +kernel) (by decide +kernel) (by decide +kernel) (fun _ _ _ h => h) (Or.inr ⟨by rfl, rfl⟩) ?_; try simp only [Act.put, List.setIfInBounds_toArray, List.set_cons_zero, List.set_cons_succ]) | skip); (first | (refine takeG 12 (v := ?_) rfl (by decide +kernel) (by decide +kernel) (by decide +kernel) (fun _ _ _ h => h) (Or.inl ⟨by rfl, ?_⟩) ?_; rotate_left 1; (focus (intro W hW; go_simp; first | done | with_reducible rfl)); try simp only [Act.put, List.setIfInBounds_toArray, List.set_cons_zero, List.set_cons_succ]) | (refine takeG 12 rfl (by decide +kernel) (by decide +kernel) (by decide +kernel) (fun _ _ _ h => h) (Or.inr ⟨by rfl, rfl⟩) ?_; try simp only [Act.put, List.setIfInBounds_toArray, List.set_cons_zero, List.set_cons_succ]) | skip); (first | (refine takeG 13 (v := ?_) rfl (by decide +kernel) (by decide +kernel) (by decide +kernel) (fun _ _ _ h => h) (Or.inl ⟨by rfl, ?_⟩) ?_; rotate_left 1; (focus (intro W hW; go_simp; first | done | with_reducible rfl)); try simp only [Act.put, List.setIfInBounds_toArray, List.set_cons_zero, List.set_cons_succ]) | (refine takeG 13 rfl (by decide +kernel) (by decide +kernel) (by decide +kernel) (fun _ _ _ h => h) (Or.inr ⟨by rfl, rfl⟩) ?_; try simp only [Act.put, List.setIfInBounds_toArray, List.set_cons_zero, List.set_cons_succ]) | skip); (first | (refine takeG 14 (v := ?_) rfl (by decide +kernel) (by decide +kernel) (by decide +kernel) (fun _ _ _ h => h) (Or.inl ⟨by rfl, ?_⟩) ?_; rotate_left 1; (focus (intro W hW; go_simp; first | done | with_reducible rfl)); try simp only [Act.put, List.setIfInBounds_toArray, List.set_cons_zero, List.set_cons_succ]) | (refine takeG 14 rfl (by decide +kernel) (by decide +kernel) (by decide +kernel) (fun _ _ _ h => h) (Or.inr ⟨by rfl, rfl⟩) ?_; try simp only [Act.put, List.setIfInBounds_toArray, List.set_cons_zero, List.set_cons_succ]) | skip); (first | (refine takeG 15 (v := ?_) rfl (by decide +kernel) (by decide +kernel) (by decide +kernel) (fun _ _ _ h => h) (Or.inl ⟨by rfl, ?_⟩) ?_; rotate_left 1; (focus (intro W hW; go_simp; first | done | with_reducible rfl)); try simp only [Act.put, List.setIfInBounds_toArray, List.set_cons_zero, List.set_cons_succ]) | (refine takeG 15 rfl (by decide +kernel) (by decide +kernel) (by decide +kernel) (fun _ _ _ h => h) (Or.inr ⟨by rfl, rfl⟩) ?_; try simp only [Act.put, List.setIfInBounds_toArray, List.set_cons_zero, List.set_cons_succ]) | skip); (first | (refine takeG 16 (v := ?_) rfl (by decide +kernel) (by decide +kernel) (by decide +kernel) (fun _ _ _ h => h) (Or.inl ⟨by rfl, ?_⟩) ?_; rotate_left 1; (focus (intro W hW; go_simp; first | done | with_reducible rfl)); try simp only [Act.put, List.setIfInBounds_toArray, List.set_cons_zero, List.set_cons_succ]) | (refine takeG 16 rfl (by decide +kernel) (by decide +kernel) (by decide +kernel) (fun _ _ _ h => h) (Or.inr ⟨by rfl, rfl⟩) ?_; try simp only [Act.put, List.setIfInBounds_toArray, List.set_cons_zero, List.set_cons_succ]) | skip); (first | (refine takeG 17 (v := ?_) rfl (by decide +kernel) (by decide +kernel) (by decide +kernel) (fun _ _ _ h => h) (Or.inl ⟨by rfl, ?_⟩) ?_; rotate_left 1; (focus (intro W hW; go_simp; first | done | with_reducible rfl)); try simp only [Act.put, List.setIfInBounds_toArray, List.set_cons_zero, List.set_cons_succ]) | (refine takeG 17 rfl (by decide +kernel) (by decide +kernel) (by decide +kernel) (fun _ _ _ h => h) (Or.inr ⟨by rfl, rfl⟩) ?_; try simp only [Act.put, List.setIfInBounds_toArray, List.set_cons_zero, List.set_cons_succ]) | skip))
          refine doneG (by kernel_rfl) ?_
          clear hc1 hc2 hsl i1 i2 i3 i4 i5 w1' w2' w3' w4' t1 t3
          go_wp2
          go_region
          obtain ⟨f1, f2, f3⟩ := tail_facts qd3.drew qd4.drew Hadd.out
          have hge : (xs.length : Int) ≤ (zs.length : Int) := by rw [Hal.out]; omega
          go_wp2_with fail
          refine (lives_any _ (hL.below bd8.drew)).mono ?_
          rintro e w9 ⟨rfl, b9⟩
          go_wp2
          go_ret
          exact ⟨rfl, bd8.drew.trans (b9.mono bd8.drew.size)⟩

set_option maxHeartbeats 800000 in
set_option maxRecDepth 100000 in
theorem lawSixteen_long (w : World) (A : Option Addr) (c : Nat) (n : Nat) (hl : 300 < n) :
    Calls Tryd.prog 5 #[.slice A n c] w (ResB w true) := by
  have t1 : (300 : Int) < (n : Int) := by omega
  go_enter Tryd.func5, Tryd.ntmps5
  go_wp2
  go_ret
  exact ⟨rfl, Below.refl _ _⟩
theorem lawSixteen_any (w : World) (hL : Laid w) (A : Option Addr) (c : Nat) (xs : List UInt8) (h : Rd w w.heap.size A c xs) :
    Calls Tryd.prog 5 #[.slice A xs.length c] w (ResB w true) := by
  rcases Nat.lt_or_ge 300 xs.length with hl | hl
  · exact lawSixteen_long w A c xs.length hl
  · exact lawSixteen_in w hL A c xs h hl

end Go.Proofs.YtfpfadenfoehfaaDoor
