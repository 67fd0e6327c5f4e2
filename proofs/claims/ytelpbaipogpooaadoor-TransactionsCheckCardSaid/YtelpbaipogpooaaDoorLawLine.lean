/-
  Helper text: the walk of the law TransactionsLine; no statement is proved here.
-/
import Derived.Test.YtelpbaipogpooaaDoorLives
namespace Go.Proofs.YtelpbaipogpooaaDoor
open Go Go.RowKit

set_option maxRecDepth 100000 in
theorem funcNil_any (w : World) : Calls Tryd.prog 12 #[.nilFunc, .agg #[.int .u8 2, .int .u8 0, .int .u8 0, .int .u16 0, .int .u8 0, .int .u8 0, .bool false, .bool false, .int .u8 0, .slice none 0 0]] w (AnsNew w (zeroP, false)) := by
  obtain ⟨g0, g1, g2, g3⟩ := alloc2 w (.cells #[.int .u8 2, .int .u8 0, .int .u8 0, .int .u16 0, .int .u8 0, .int .u8 0, .bool false, .bool false, .int .u8 0, .slice none 0 0] 40) pkZ
  have qF : ∀ (w : World), (binOp .eql 33 .nilFunc .nilFunc).run Tryd.prog w = .ok (.bool true) w := fun w => by kernel_rfl
  have B1 := Lib.hid g1
  have Hb := Lib.hid g3
  clear g0 g1 g2 g3
  go_enter Tryd.func12, Tryd.ntmps12
  go_wp2_with (refine wpl_storeB flatPk rfl (.tmp 4) (.tmp 10) rfl _ rfl _ rfl B1.out rfl rfl rfl ?_; intro y k2 hg hs)
  refine bodyPost_ret (ret_cell_tmp flatPk rfl _ (w.heap.size + 1) rfl k2 rfl) rfl ?_
  exact ⟨none, 0, rfl, RdS.nil _, below_grown Hb.out hg Hb.out.size (by omega)⟩

theorem Asr.setCell {N : Nat} {A : Asr N} {F : Nat → Prop} {w : World} {p : Addr} (h : A.holds F w) (hp : ¬ F p.block) (hN : N ≤ p.block) (u : Value) : A.holds F (w.setCell p u) :=
  A.loc h (by simp [World.setCell]) fun k hk => Below.heap_setCell w p u k (fun e => by subst e; exact hk.elim hp (fun hl => by omega))
theorem left_any (w : World) (N b : Nat) (fs : List UInt8) (F : Nat → Prop) (h : (lineA N b fs).holds F w) :
    Calls Tryd.prog 10 #[.pointer (some ⟨b, 0, none⟩)] w fun e w' => e = .returned (.int .i64 (fs.length : Int)) ∧ w = w' := by
  obtain ⟨⟨A, c, h1, _⟩, _⟩ := h
  exact left_core w b fs.length c A h1

theorem drop_getD (xs : List UInt8) (k : Nat) : (xs.drop k).getD 0 0 = xs.getD k 0 := by
  simp [List.getD_eq_getElem?_getD, List.getElem?_drop]
theorem bv_inc (y : UInt8) : Value.int .u8 (((y.toNat : Int) + 1) % 256) = bv (y + 1) := by
  unfold bv
  rw [UInt8.toNat_add]
  rfl

set_option maxHeartbeats 6400000 in
set_option maxRecDepth 100000 in
theorem lawLine_any (w : World) (hL : Laid w) (hLN : 0 < w.heap.size) (A : Option Addr) (c : Nat) (xs : List UInt8) (hx : Rd w w.heap.size A c xs) (m : Nat) (hm : m < 256) :
    Calls Tryd.prog 3 #[.slice A xs.length c, .int .u8 (m : Int)] w (ResB w true) := by
  by_cases hl : (60 : Int) < (xs.length : Int)
  · go_enter Tryd.func3, Tryd.ntmps3
    go_wp2
    go_ret
    exact ⟨rfl, Below.refl _ _⟩
  · have hlen : xs.length ≤ 60 := by omega
    go_enter Tryd.func3, Tryd.ntmps3
    go_wp2
    go_loopw [5, 6] (fun u i wr => ∃ (k : Nat), k ≤ xs.length ∧ i = .int .i64 k ∧ wr.ownsRow w.heap.size 25 1 u (xs.take k).length ((xs.take k).map bv) ∧ Below w.heap.size w wr) (fun _ i _ => xs.length - (intOf i).toNat)
    case atStart => exact ⟨0, by omega, rfl, ⟨by simp, .inl ⟨rfl, by simp⟩⟩, Below.refl _ _⟩
    case round =>
      obtain ⟨k, hk, rfl, hown, hb⟩ := hrel
      by_cases hkl : k < xs.length
      · obtain ⟨b, off, hA, hblt, hcell⟩ := (hx.below hb).at_ hkl
        subst hA
        have hsn : xs.take (k + 1) = xs.take k ++ [xs.getD k 0] := take_snoc xs hkl
        have hzl : (xs.take k).length ≤ 100000 := by simp; omega
        generalize xs.take k = zs at hown hsn hzl
        generalize xs.getD k 0 = x at hcell hsn
        have hxb := x.toNat_lt
        have Hs := Lib.hid hsn
        have Ho := Lib.hid hown
        have Hb := Lib.hid hb
        have Hz := Lib.hid hzl
        clear hsn hown hb hzl
        rename_i u5 _
        go_wp2_with (at_builtin; refine wpl_append1 Tryd.underlying24 infFault rfl (.tmp 26) (.tmp 31) rfl w.heap.size u5 zs rfl Ho.out x _ rfl rfl (by have := Hz.out; omega) Hb.out.size ?_; intro v' w1 hown2 hb2)
        go_roundw
        case rel => exact ⟨k + 1, by omega, by go_num, by rw [Hs.out]; exact hown2, Hb.out.trans hb2⟩
        case measure => simp [intOf]; omega
      · have hk9 : k = xs.length := by omega
        subst hk9
        rw [List.take_length] at hown
        obtain ⟨A1, c1, rfl, hr1⟩ := Rd.of_own hown
        have hg1 := Lib.hid (fun ad (e : A1 = some ad) => (show w.heap.size ≤ ad.block ∧ ad.block < wr.heap.size from by
          subst e
          exact hown.lt ad.block rfl))
        have Ho := Lib.hid hown
        have Hb := Lib.hid hb
        have Hr := Lib.hid hr1
        clear hown hb hr1 hkl
        go_wp2_with fail
        refine (newLine_any _ A1 c1 xs Hr.out (by omega)).mono ?_
        rintro e y ⟨b, F, rfl, hF, hb2⟩
        have hM := Lib.hid (show w.heap.size ≤ wr.heap.size from Hb.out.size)
        have hFM := Lib.hid (fun k (hk : F k) => (hF.2.2 k hk).1)
        have HF := Lib.hid hF
        have Ho2 := Lib.hid (own_below Ho.out hb2)
        have Hb2 := Lib.hid (Hb.out.trans (hb2.mono Hb.out.size))
        clear hF hb2 Ho
        obtain ⟨M, hMM⟩ : ∃ M, wr.heap.size = M := ⟨_, rfl⟩
        rw [hMM] at HF hFM hM hg1
        clear hMM
        go_wp2
        have HFw := Lib.hid (lineA_base HF.out hM.out)
        clear HF
        go_loopw [8] (fun i W => ∃ (k : Nat) (ys : List UInt8), k ≤ xs.length ∧ i = .int .i64 k ∧ ys.length = xs.length ∧ W.ownsRow w.heap.size 25 1 (.slice A1 xs.length c1) xs.length (ys.map bv) ∧ (lineA w.heap.size b xs).holds F W ∧ Below w.heap.size w W) (fun i _ => xs.length - (intOf i).toNat)
        case atStart => exact ⟨0, xs, by omega, rfl, rfl, Ho2.out, HFw.out, Hb2.out⟩
        case round =>
          obtain ⟨k, ys, hk, rfl, hyl, hown, hF, hb⟩ := hrel
          by_cases hkl : k < xs.length
          · have hown' := hown
            rw [← hyl] at hown'
            obtain ⟨g, c', hv, hgw, hfz, hcell, hst⟩ := own_store hown' (by omega)
            injection hv with hv1 hv2 hv3
            subst hv1
            have hgM := (hg1.out _ rfl).2
            have e0 := hcell k (by omega)
            have f0 := hfz k
            have hst2 := Lib.hid (hst k (ys.getD k 0 + 1) (by omega))
            have hF2 := Lib.hid (Asr.setCell (p := ⟨g, k, none⟩) hF (fun hf => by have := hFM.out g hf; simp only at hgM; omega) hgw (bv (ys.getD k 0 + 1)))
            have hb2 := Lib.hid (hb.setCell (p := ⟨g, k, none⟩) hgw (bv (ys.getD k 0 + 1)))
            have hyl' := Lib.hid hyl
            clear hown hown' hcell hst hF hb hgw hyl hfz hgM
            generalize ys.getD k 0 = y0 at *
            have hyb := y0.toNat_lt
            have hv1 := Lib.hid (bv_inc y0)
            go_wp2
            go_roundw
            case rel =>
              refine ⟨k + 1, ys.set k (y0 + 1), by omega, by go_num, by rw [List.length_set]; exact hyl'.out, ?_, ?_, ?_⟩
              · have h2 := hst2.out
                rw [List.length_set, hyl'.out] at h2
                rw [hv1.out]; exact h2
              · rw [hv1.out]; exact hF2.out
              · rw [hv1.out]; exact hb2.out
            case measure => simp [intOf]; omega
          · have HF3 := Lib.hid hF
            have Hb3 := Lib.hid hb
            have hMr := Lib.hid (show w.heap.size ≤ wr.heap.size from hb.size)
            clear hF hb hown hyl Ho2 HFw Hb2 hg1 hFM hM
            go_wp2
            go_loopw [9, 10, 11] (fun i _ _ W => ∃ (k : Nat) (F : Nat → Prop), k ≤ m ∧ i = .int .i64 k ∧ (lineA w.heap.size b (xs.drop k)).holds F W ∧ Below w.heap.size w W) (fun i _ _ _ => m - (intOf i).toNat)
            case atStart => exact ⟨0, F, by omega, rfl, by simpa using HF3.out, Hb3.out⟩
            case round =>
              obtain ⟨k, F, hk, rfl, hF, hb⟩ := hrel
              by_cases hkm : k < m
              · have hdd := Lib.hid (List.drop_drop (i := 1) (j := k) (l := xs))
                have hgd := Lib.hid (drop_getD xs k)
                by_cases hkl : k < xs.length
                · obtain ⟨b1, off, hA, hblt, hcell⟩ := (hx.below hb).at_ hkl
                  subst hA
                  have ht : (xs.length : Int) - (k : Int) = ((xs.drop k).length : Int) := by rw [List.length_drop]; omega
                  have htp : 0 < (xs.drop k).length := by rw [List.length_drop]; omega
                  have htq : (xs.drop k).length ≤ 60 := by rw [List.length_drop]; omega
                  have hnx := next_any wr w.heap.size b (xs.drop k) F hF
                  rw [drop_getD xs k, hdd.out] at hnx
                  have hlf := left_any wr w.heap.size b (xs.drop k) F hF
                  generalize (xs.drop k).length = n at hlf ht htp htq
                  generalize xs.getD k 0 = x at hcell hnx
                  have hxb := x.toNat_lt
                  have Hb := Lib.hid hb
                  have Hlf := Lib.hid hlf
                  have Hnx := Lib.hid hnx
                  have Hge := Lib.hid fun j hj => (hF.2.2 j hj).1
                  have Hsz := Lib.hid hb.size
                  clear hF hb HF3 Hb3 hlf hnx hdd hgd
                  go_wp2_with fail
                  refine Hlf.out.mono ?_
                  rintro e w1 ⟨rfl, rfl⟩
                  go_wp2_with fail
                  refine Hnx.out.mono ?_
                  rintro e w2 ⟨rfl, F2, h1, h2⟩
                  have Hb2 := Lib.hid (Hb.out.trans (h2.belowN Hge.out Hsz.out))
                  have H1 := Lib.hid h1
                  clear h1 h2
                  go_wp2
                  go_roundw
                  case rel => exact ⟨k + 1, F2, by omega, by go_num, H1.out, Hb2.out⟩
                  case measure => simp [intOf]; omega
                · have hnil : xs.drop k = [] := List.drop_eq_nil_of_le (by omega)
                  have hnx := next_any wr w.heap.size b (xs.drop k) F hF
                  rw [hdd.out] at hnx
                  have hlf := left_any wr w.heap.size b (xs.drop k) F hF
                  have e0 : (xs.drop k).length = 0 := by rw [hnil]; rfl
                  have e1 : ((xs.drop k).getD 0 0).toNat = 0 := by rw [hnil]; rfl
                  rw [e0] at hlf
                  rw [e1] at hnx
                  have hng : ¬ (0 : Int) < (xs.length : Int) - (k : Int) := by omega
                  have Hb := Lib.hid hb
                  have Hlf := Lib.hid hlf
                  have Hnx := Lib.hid hnx
                  have Hge := Lib.hid fun j hj => (hF.2.2 j hj).1
                  have Hsz := Lib.hid hb.size
                  clear hF hb HF3 Hb3 hlf hnx hdd hgd e0 e1 hnil
                  go_wp2_with fail
                  refine Hlf.out.mono ?_
                  rintro e w1 ⟨rfl, rfl⟩
                  go_wp2_with fail
                  refine Hnx.out.mono ?_
                  rintro e w2 ⟨rfl, F2, h1, h2⟩
                  have Hb2 := Lib.hid (Hb.out.trans (h2.belowN Hge.out Hsz.out))
                  have H1 := Lib.hid h1
                  clear h1 h2
                  go_wp2
                  go_roundw
                  case rel => exact ⟨k + 1, F2, by omega, by go_num, H1.out, Hb2.out⟩
                  case measure => simp [intOf]; omega
              · have k1 := Lib.hid (alloc1 wr (.cells #[.slice none 0 0] 31))
                have Hb := Lib.hid (hb.alloc hb.size (.cells #[.slice none 0 0] 31))
                have HLv := Lib.hid fun (X : World) (h : Below w.heap.size w X) => lives_any X (hL.belowN h hLN) (Nat.lt_of_lt_of_le hLN h.size)
                have Hw := Lib.hid hb.size
                clear hF hb HF3 Hb3 hL
                go_wp2_with fail
                refine (funcNil_any _).mono ?_
                rintro e x ⟨A2, c2, rfl, hr, hb2⟩
                have Hb2 := Lib.hid (Hb.out.trans (hb2.mono Hb.out.size))
                have k2 := Lib.hid ((hb2.block _ (block_lt k1.out)).trans k1.out)
                have k3 := Lib.hid (alloc1 x (.cells #[.int .u8 0, .int .u8 0, .int .u8 0, .int .u16 0, .int .u8 0, .int .u8 0, .bool false, .bool false, .int .u8 0, .slice none 0 0] 40))
                have Hz := Lib.hid ((Below.refl x.heap.size x).alloc (Nat.le_refl _) (.cells #[.int .u8 0, .int .u8 0, .int .u8 0, .int .u16 0, .int .u8 0, .int .u8 0, .bool false, .bool false, .int .u8 0, .slice none 0 0] 40))
                clear hr hb2 Hb k1
                go_wp2_with (refine wpl_storeB flatPk rfl (.tmp 15) (.tmp 77) rfl _ rfl _ rfl k3.out rfl rfl rfl ?_; intro y1 q1 hg1 hs1; have hbz := below_grown Hz.out hg1 Hz.out.size (Nat.le_refl _); replace k2 := Lib.hid ((hbz.block _ (block_lt k2.out)).trans k2.out); replace Hb2 := Lib.hid (Hb2.out.trans (hbz.mono Hb2.out.size)); clear hg1 hs1 hbz q1)
                refine (next_nil _).mono ?_
                rintro e z ⟨rfl, rfl⟩
                go_wp2_with fail
                refine (left_nil _).mono ?_
                rintro e z ⟨rfl, rfl⟩
                go_wp2_with fail
                refine (next_zero _ _ _ _ k2.out).mono ?_
                rintro e z ⟨rfl, rfl⟩
                go_wp2_with fail
                refine (left_core _ _ 0 _ _ k2.out).mono ?_
                rintro e z ⟨rfl, rfl⟩
                go_wp2_with fail
                refine (HLv.out _ Hb2.out).mono ?_
                rintro e z ⟨rfl, hbe⟩
                have Hbe := Lib.hid (Hb2.out.trans (hbe.mono Hb2.out.size))
                clear hbe
                go_wp2
                go_ret
                exact ⟨rfl, Hbe.out⟩

end Go.Proofs.YtelpbaipogpooaaDoor
