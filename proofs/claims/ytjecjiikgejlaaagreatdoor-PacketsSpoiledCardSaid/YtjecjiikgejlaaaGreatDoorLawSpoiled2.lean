/-
  Helper text: the walk of the law PacketsSpoiled; no statement is proved here.
-/
import Derived.Test.YtjecjiikgejlaaaGreatDoorLawSpoiled
namespace Go.Proofs.YtjecjiikgejlaaaGreatDoor
open Go Go.RowKit

theorem sendL_len (xs : List UInt8) : 3 ≤ (Lv.sendL xs).length ∧ (Lv.sendL xs).length ≤ 16 * xs.length + 19 := by
  unfold Lv.sendL
  have h := Lv.stuffL_len (Lv.syncL ++ Lv.bitsL xs)
  rw [List.length_append, Lv.encL_len, show Lv.endL.length = 3 from rfl]
  rw [List.length_append, Lv.bitsL_len, show Lv.syncL.length = 8 from rfl] at h
  omega
theorem encL_le {r : Rg} {xs : List UInt8} (hl : xs.length ≤ 1024) : (encL r xs).length ≤ 1028 := by
  have h := contentL_len r xs
  show (contentL r xs).length + 1 ≤ 1028
  omega

set_option maxHeartbeats 800000 in
set_option maxRecDepth 100000 in
theorem lawSpoiled_skip (w : World) (wt a b fr fl : Nat) (A : Option Addr) (n c : Nat) (h : 200 < n) (p t : Int) :
    Calls Tryz.prog 7 #[.agg (xcells wt a b fr fl (.slice A n c)), .int .u16 p, .int .u8 t] w (ResB w true) := by
  have t1 : (200 : Int) < (n : Int) := by omega
  simp only [xcells]
  go_enter Tryz.func7, Tryz.ntmps7
  go_wp2
  go_ret
  exact ⟨rfl, (Below.refl _ w).alloc (Nat.le_refl _) _⟩

set_option maxHeartbeats 3200000 in
set_option maxRecDepth 100000 in
theorem lawSpoiled_in (w : World) (hL : Laid w) (hV : Lv.Laid w) (wt a b fr fl : Nat) (hwt : wt < 256) (ha : a < 256) (hb : b < 256) (hfr : fr < 65536) (hfl : fl < 256) (A : Option Addr) (c : Nat) (xs : List UInt8) (hx : Rd w w.heap.size A c xs) (hl : xs.length ≤ 200)
    (p : Nat) (hp : p < 65536) (t : UInt8) :
    Calls Tryz.prog 7 #[.agg (xcells wt a b fr fl (.slice A xs.length c)), .int .u16 (p : Int), .int .u8 (t.toNat : Int)] w (ResB w true) := by
  have t1 : ¬ (200 : Int) < (xs.length : Int) := by omega
  have hbW := (Below.refl w.heap.size w).alloc (Nat.le_refl _) (.cells (xcells wt a b fr fl (.slice A xs.length c)) 40)
  obtain ⟨r, ys, ok, hf, hyl, KP⟩ := pkt_any (w.alloc (.cells (xcells wt a b fr fl (.slice A xs.length c)) 40)) wt a b fr fl hwt ha hb hfr hfl A c xs (hx.belowTop hbW) (by omega)
  have KPh := Lib.hid KP
  have hbWh := Lib.hid hbW
  have hLh := Lib.hid hL
  have hVh := Lib.hid hV
  have hokh := Lib.hid ok
  have hfh := Lib.hid hf
  have ht8 : t.toNat < 256 := t.toNat_lt
  clear KP hbW hL hV hx ok hf
  simp only [xcells] at KPh hbWh ⊢
  go_enter Tryz.func7, Tryz.ntmps7
  go_wp2_with fail
  refine KPh.out.mono ?_
  rintro e w1 ⟨v1, rfl, o1, b1⟩
  obtain ⟨A1, c1, rfl, r1⟩ := Rd.of_own o1
  have hb1 := Lib.hid (hbWh.out.trans (b1.mono hbWh.out.size))
  have hr1 := Lib.hid r1
  clear o1 b1 r1 KPh hbWh
  have ok2 := Lib.hid (ok_data hokh.out (.slice A1 ys.length c1))
  have hf2 := Lib.hid (fit_data hfh.out (.slice A1 ys.length c1))
  have KS := Lib.hid (send3 w1 (hLh.out.below hb1.out) (hVh.out.below hb1.out) { r with data := .slice A1 ys.length c1 } ok2.out A1 c1 ys hr1.out rfl (fit_err ok2.out hf2.out hyl))
  go_wp2_with fail
  refine KS.out.mono ?_
  rintro e w2 ⟨v2, rfl, o2, b2⟩
  have hsl := sendL_len (encL { r with data := .slice A1 ys.length c1 } ys)
  have hel := encL_le (r := { r with data := .slice A1 ys.length c1 }) hyl
  obtain ⟨ls, hls⟩ : ∃ ls, Lv.sendL (encL { r with data := .slice A1 ys.length c1 } ys) = ls := ⟨_, rfl⟩
  rw [hls] at o2 hsl
  have hlsh := Lib.hid hls
  have hpos : 0 < ls.length := by omega
  have hlm : ls.length ≤ 100000 := by omega
  obtain ⟨g, c2, rfl, hg, hfz, hcl, hst⟩ := own_store o2 hpos
  have hb2 := Lib.hid (hb1.out.trans (b2.mono hb1.out.size))
  have hrd2 := Lib.hid (Rd.of_own_at o2)
  clear hls KS b2 o2 hsl hel
  obtain ⟨i, hi⟩ : ∃ i, p % ls.length = i := ⟨_, rfl⟩
  have hil : i < ls.length := by rw [← hi]; exact Nat.mod_lt _ hpos
  have im1 : (p : Int).tmod (ls.length : Int) = (i : Int) := by
    rw [Int.tmod_eq_emod_of_nonneg (by omega), ← hi]; rfl
  have im2 : (p : Int) % (ls.length : Int) = (i : Int) := by rw [← hi]; rfl
  clear hi
  have hci : w2.cell? ⟨g, i, none⟩ = some (.int .u8 ((ls.getD i 0).toNat : Int)) := hcl i hil
  have hfi := hfz i
  have hsti := Lib.hid (hst i t hil)
  have h8 : (ls.getD i 0).toNat < 256 := (ls.getD i 0).toNat_lt
  have hn0 : ((ls.length : Nat) : Int) ≠ 0 := by omega
  have hn1 : ((ls.length : Int) == 0) = false := by rw [beq_eq_false_iff_ne]; omega
  clear hcl hfz hst
  by_cases heq : t = ls.getD i 0
  · rw [← heq] at hci
    go_wp2_with fail
    refine (lives_any _ (hLh.out.below hb2.out)).mono ?_
    rintro e w3 ⟨rfl, b3⟩
    have hb3 := Lib.hid (hb2.out.trans (b3.mono hb2.out.size))
    clear b3
    go_wp2
    go_ret
    exact ⟨rfl, hb3.out⟩
  · have hne : (((ls.getD i 0).toNat : Int) == (t.toNat : Int)) = false := by
      rw [beq_eq_false_iff_ne]
      intro h
      exact heq (UInt8.toNat_inj.1 (by omega))
    have hg2 := Lib.hid (Nat.le_trans hb1.out.size hg)
    have hb3 := Lib.hid (hb2.out.setCell (p := ⟨g, i, none⟩) hg2.out (.int .u8 (t.toNat : Int)))
    have hrd3 : Hid (Rd (w2.setCell ⟨g, i, none⟩ (.int .u8 (t.toNat : Int))) (w2.setCell ⟨g, i, none⟩ (.int .u8 (t.toNat : Int))).heap.size (some ⟨g, 0, none⟩) c2 (ls.set i t)) := by
      have h := hsti.out
      rw [List.length_set] at h
      have h2 := Rd.of_own_at (xs := ls.set i t) (n := ls.length) (c := c2) (A := some ⟨g, 0, none⟩) (by rw [List.length_set]; exact h)
      exact h2
    obtain ⟨E, hE0, KR⟩ := recv_spoilt (w2.setCell ⟨g, i, none⟩ (.int .u8 (t.toNat : Int))) (hLh.out.below hb3.out) (hVh.out.below hb3.out) ok2.out hf2.out hyl ls hlsh.out hlm i hil t heq (some ⟨g, 0, none⟩) c2 hrd3.out
    have KRh := Lib.hid KR
    have e0 : (E == 0) = false := by rw [beq_eq_false_iff_ne]; exact hE0
    have e1 : (E != 0) = true := by rw [bne, e0]; rfl
    clear KR hE0 e0 heq hsti hrd2 hrd3
    generalize (ls.getD i 0).toNat = si at hci hne h8
    go_wp2_with fail
    refine KRh.out.mono ?_
    rintro e w3 ⟨cs3, rfl, b3⟩
    have hb4 := Lib.hid (hb3.out.trans (b3.mono hb3.out.size))
    clear b3 KRh
    go_wp2_with fail
    refine (lives_any _ (hLh.out.below hb4.out)).mono ?_
    rintro e w4 ⟨rfl, b4⟩
    have hb5 := Lib.hid (hb4.out.trans (b4.mono hb4.out.size))
    clear b4
    go_wp2
    go_ret
    exact ⟨rfl, hb5.out⟩
theorem lawSpoiled_any (w : World) (hL : Laid w) (hV : Lv.Laid w) (wt a b fr fl : Nat) (hwt : wt < 256) (ha : a < 256) (hb : b < 256) (hfr : fr < 65536) (hfl : fl < 256) (A : Option Addr) (c : Nat) (xs : List UInt8) (hx : Rd w w.heap.size A c xs)
    (p : Nat) (hp : p < 65536) (t : UInt8) :
    Calls Tryz.prog 7 #[.agg (xcells wt a b fr fl (.slice A xs.length c)), .int .u16 (p : Int), .int .u8 (t.toNat : Int)] w (ResB w true) := by
  by_cases h : 200 < xs.length
  · exact lawSpoiled_skip w wt a b fr fl A _ c h _ _
  · exact lawSpoiled_in w hL hV wt a b fr fl hwt ha hb hfr hfl A c xs hx (by omega) p hp t

end Go.Proofs.YtjecjiikgejlaaaGreatDoor
