/-
  Helper text: the examples of the chapter hold; no statement is proved here.
-/
import Derived.Test.YtkfkcpogcobmbaaDoorLvA
namespace Go.Proofs.YtkfkcpogcobmbaaDoor
open Go Go.RowKit

/-- The block of an outcome. -/
abbrev ouB (r : Nat) (A : Option Addr) (n c : Nat) : Obj := .cells #[.int .u8 (r : Int), .slice A n c] 56
theorem hole (P : Prop) : P ∨ True := .inr trivial

set_option maxHeartbeats 6400000 in
set_option maxRecDepth 100000 in
theorem lives_any (w : World) (hL : Laid w) (hLN : 0 < w.heap.size) : Calls Tryd.prog 13 #[] w (ResB w true) := by
  have K1 := Lib.hid fun (X : World) (hb : Below w.heap.size w X) => show Calls Tryd.prog 17 #[.iface 33 exF, .nilIface, .agg #[.int .u8 0, .int .u8 0, .int .u8 9, .bool false, .bool false, .int .i64 8, .slice none 0 0]] X (ExPost X.heap.size X (1, [7]) _) from exDo_nil X (hL.belowN hb hLN) (Nat.lt_of_lt_of_le hLN hb.size) tr1 tr1_ok none 0 (Rd.nil _ _) _ _ d1
  have K2 := Lib.hid fun (X : World) (hb : Below w.heap.size w X) => show Calls Tryd.prog 17 #[.iface 33 exF, .nilIface, .agg #[.int .u8 0, .int .u8 0, .int .u8 9, .bool true, .bool false, .int .i64 8, .slice none 0 0]] X (ExPost X.heap.size X (6, []) _) from exDo_nil X (hL.belowN hb hLN) (Nat.lt_of_lt_of_le hLN hb.size) tr2 tr2_ok none 0 (Rd.nil _ _) _ _ d2
  have K3 := Lib.hid fun (X : World) (hb : Below w.heap.size w X) => show Calls Tryd.prog 17 #[.iface 33 exF, .nilIface, .agg #[.int .u8 0, .int .u8 0, .int .u8 9, .bool false, .bool false, .int .i64 0, .slice none 0 0]] X (ExPost X.heap.size X (5, []) _) from exDo_nil X (hL.belowN hb hLN) (Nat.lt_of_lt_of_le hLN hb.size) tr3 tr3_ok none 0 (Rd.nil _ _) _ _ d3
  have K4 := Lib.hid fun (X : World) (hb : Below w.heap.size w X) (M : Nat) (hwM : w.heap.size ≤ M) (hM : M ≤ X.heap.size) (b : Nat) (F : Nat → Prop) (hF : (lineA M b [1]).holds F X) (A : Option Addr) (hr : RdS (fun k => ¬ F k) X A 1 [1]) => show Calls Tryd.prog 17 #[.iface 33 exF, .iface 26 (.pointer (some ⟨b, 0, none⟩)), .agg #[.int .u8 0, .int .u8 0, .int .u8 1, .bool false, .bool false, .int .i64 0, .slice A 1 1]] X (ExPost M X (4, []) _) from exDo_line X M hM (hL.belowN hb hLN) (Nat.lt_of_lt_of_le hLN hwM) b [1] F hF tr4 tr4_ok A 1 hr _ _ _ d4
  have K5 := Lib.hid fun (X : World) (hb : Below w.heap.size w X) (M : Nat) (hwM : w.heap.size ≤ M) (hM : M ≤ X.heap.size) (b : Nat) (F : Nat → Prop) (hF : (lineA M b [0, 2]).holds F X) (A : Option Addr) (hr : RdS (fun k => ¬ F k) X A 1 [1]) => show Calls Tryd.prog 17 #[.iface 33 exF, .iface 26 (.pointer (some ⟨b, 0, none⟩)), .agg #[.int .u8 0, .int .u8 0, .int .u8 1, .bool false, .bool false, .int .i64 0, .slice A 1 1]] X (ExPost M X (4, []) _) from exDo_line X M hM (hL.belowN hb hLN) (Nat.lt_of_lt_of_le hLN hwM) b [0, 2] F hF tr4 tr4_ok A 1 hr _ _ _ d5
  have K6 := Lib.hid fun (X : World) (hb : Below w.heap.size w X) (A : Option Addr) (hr : Rd X X.heap.size A 7 [0, 0, 0, 0, 0, 0, 0]) => show Calls Tryd.prog 17 #[.iface 33 exF, .nilIface, .agg #[.int .u8 0, .int .u8 0, .int .u8 13, .bool false, .bool false, .int .i64 0, .slice A 7 7]] X (ExPost X.heap.size X (0, []) _) from exDo_nil X (hL.belowN hb hLN) (Nat.lt_of_lt_of_le hLN hb.size) tr6 tr6_ok A 7 hr _ _ d6
  have Hw := Lib.hid (Below.refl w.heap.size w)
  clear hL hLN
  go_enter Tryd.func13, Tryd.ntmps13
  go_wp2_with fail
  refine (K1.out _ Hw.out).mono ?_
  rintro e x1 ⟨A1, c1, B1, e1, rfl, hr, hl, hb⟩
  replace Hw := Lib.hid (Hw.out.trans (hb.mono Hw.out.size))
  have R1 := Lib.hid hr
  clear hr hl hb
  have HwA := Lib.hid (show w.heap.size ≤ x1.heap.size from Hw.out.size)
  have k1 := Lib.hid (alloc1 x1 (.cells #[.int .u8 0, .slice none 0 0] 56))
  have Hz1 := Lib.hid ((Below.refl x1.heap.size x1).alloc (Nat.le_refl _) (.cells #[.int .u8 0, .slice none 0 0] 56))
  go_wp2_with (refine wpl_storeB flatOut rfl (.tmp 2) (.tmp 13) rfl _ rfl _ rfl k1.out rfl rfl rfl ?_; intro y1 q1 hg1 hs1; have hbz := below_grown Hz1.out hg1 Hz1.out.size (Nat.le_refl _); replace R1 := Lib.hid (R1.out.below hbz); replace Hw := Lib.hid (Hw.out.trans (hbz.mono Hw.out.size)); have G2 := Lib.hid q1; clear hg1 hs1 hbz q1)
  refine (K2.out _ Hw.out).mono ?_
  rintro e x2 ⟨A2, c2, B2, e2, rfl, hr, hl, hb⟩
  replace G2 := Lib.hid ((hb.block _ (block_lt G2.out)).trans G2.out)
  replace R1 := Lib.hid (R1.out.below hb)
  replace Hw := Lib.hid (Hw.out.trans (hb.mono Hw.out.size))
  clear hr hl hb
  have HwB := Lib.hid (show w.heap.size ≤ x2.heap.size from Hw.out.size)
  have n24 := Lib.hid (block_lt G2.out)
  have k2 := Lib.hid (alloc1 x2 (.cells #[.int .u8 0, .slice none 0 0] 56))
  have Hz2 := Lib.hid ((Below.refl x2.heap.size x2).alloc (Nat.le_refl _) (.cells #[.int .u8 0, .slice none 0 0] 56))
  go_wp2_with (refine wpl_storeB flatOut rfl (.tmp 4) (.tmp 20) rfl _ rfl _ rfl k2.out rfl rfl rfl ?_; intro y2 q2 hg2 hs2; have hbz := below_grown Hz2.out hg2 Hz2.out.size (Nat.le_refl _); replace G2 := Lib.hid ((hbz.block _ (block_lt G2.out)).trans G2.out); replace R1 := Lib.hid (R1.out.below hbz); replace Hw := Lib.hid (Hw.out.trans (hbz.mono Hw.out.size)); have G4 := Lib.hid q2; clear hg2 hs2 hbz q2)
  refine (K3.out _ Hw.out).mono ?_
  rintro e x3 ⟨A3, c3, B3, e3, rfl, hr, hl, hb⟩
  replace G2 := Lib.hid ((hb.block _ (block_lt G2.out)).trans G2.out)
  replace G4 := Lib.hid ((hb.block _ (block_lt G4.out)).trans G4.out)
  replace R1 := Lib.hid (R1.out.below hb)
  replace Hw := Lib.hid (Hw.out.trans (hb.mono Hw.out.size))
  clear hr hl hb
  have HwC := Lib.hid (show w.heap.size ≤ x3.heap.size from Hw.out.size)
  have n26 := Lib.hid (block_lt G2.out)
  have n46 := Lib.hid (block_lt G4.out)
  have k3 := Lib.hid (alloc1 x3 (.cells #[.int .u8 0, .slice none 0 0] 56))
  have Hz3 := Lib.hid ((Below.refl x3.heap.size x3).alloc (Nat.le_refl _) (.cells #[.int .u8 0, .slice none 0 0] 56))
  go_wp2_with (refine wpl_storeB flatOut rfl (.tmp 6) (.tmp 27) rfl _ rfl _ rfl k3.out rfl rfl rfl ?_; intro y3 q3 hg3 hs3; have hbz := below_grown Hz3.out hg3 Hz3.out.size (Nat.le_refl _); replace G2 := Lib.hid ((hbz.block _ (block_lt G2.out)).trans G2.out); replace G4 := Lib.hid ((hbz.block _ (block_lt G4.out)).trans G4.out); replace R1 := Lib.hid (R1.out.below hbz); replace Hw := Lib.hid (Hw.out.trans (hbz.mono Hw.out.size)); have G6 := Lib.hid q3; clear hg3 hs3 hbz q3; have a0 := block_at G2.out (i := 0) (v := .int .u8 1) rfl; have a1 := block_at G2.out (i := 1) (v := .slice A1 1 c1) rfl; have b0 := block_at G4.out (i := 0) (v := .int .u8 6) rfl; have b1 := block_at G4.out (i := 1) (v := .slice A2 0 c2) rfl; have d0 := block_at G6.out (i := 0) (v := .int .u8 5) rfl; have hcv : (convert 22 9 (.slice A1 1 c1)).run Tryd.prog y3 = .ok (.string ⟨#[7]⟩) y3 := R1.out.rdT.str Tryd.underlying22 Tryd.underlying5 Tryd.underlying9)
  clear a0 a1 b0 b1 d0 hcv R1
  have m2 := Lib.hid (block_lt G2.out)
  have m4 := Lib.hid (block_lt G4.out)
  have m6 := Lib.hid (block_lt G6.out)
  refine (wire_one _ _ ((one_rd y3).rdT)).mono ?_
  rintro e z7 ⟨b7, F7, rfl, hF, hb⟩
  have ha7 := (Below.refl y3.heap.size y3).alloc (Nat.le_refl _) (.cells #[.int .u8 1] 5)
  have hMs7 : y3.heap.size ≤ (y3.alloc (.cells #[.int .u8 1] 5)).heap.size := ha7.size
  have hb2 := (Below.refl z7.heap.size z7).alloc (Nat.le_refl _) (.cells #[.int .u8 1] 5)
  have hzz := (ha7.trans (hb.mono hMs7)).trans (hb2.mono (Nat.le_trans hMs7 hb.size))
  have hF2 := Asr.below hF hb2 hb.size
  have hr2 : RdS (fun k => ¬ F7 k) (z7.alloc (.cells #[.int .u8 1] 5)) (some ⟨z7.heap.size, 0, none⟩) 1 [1] := (one_rd z7).mono fun k hk hf => by have := (hF.2.2 k hf).2; omega
  have Hzz := Lib.hid hzz
  have HF2 := Lib.hid hF2
  have Hr2 := Lib.hid hr2
  have HMs := Lib.hid hMs7
  have HM2 := Lib.hid (Nat.le_trans hb.size hb2.size)
  clear hF hb ha7 hMs7 hb2 hzz hF2 hr2
  go_wp2_with fail
  refine (K4.out _ (Hw.out.trans (Hzz.out.mono Hw.out.size)) _ (Nat.le_trans Hw.out.size HMs.out) HM2.out b7 F7 HF2.out _ Hr2.out).mono ?_
  rintro e x7 ⟨A7, c7, B7, e7, rfl, hr, hl, hb⟩
  have hx := Hzz.out.trans (hb.mono HMs.out)
  replace G2 := Lib.hid ((hx.block _ (block_lt G2.out)).trans G2.out)
  replace G4 := Lib.hid ((hx.block _ (block_lt G4.out)).trans G4.out)
  replace G6 := Lib.hid ((hx.block _ (block_lt G6.out)).trans G6.out)
  replace Hw := Lib.hid (Hw.out.trans (hx.mono Hw.out.size))
  have L7 := Lib.hid (hl.mono (G := fun k => y3.heap.size ≤ k) fun k hk => Nat.le_trans HMs.out hk)
  obtain ⟨bb7, of7, hB, _⟩ := two_faults hl
  subst hB
  clear hr hl hb hx Hzz HF2 Hr2 HMs HM2
  go_wp2_with (refine wpl_storeB flatOut rfl (.tmp 2) (.tmp 78) rfl _ rfl _ rfl G2.out rfl rfl rfl ?_; intro y7 q7 hg7 hs7; replace Hw := Lib.hid (below_grown Hw.out hg7 Hw.out.size (by have := HwA.out; have := HwB.out; have := HwC.out; omega)); replace G4 := Lib.hid (grown_block hg7 G4.out (fun e => by injection e; have := n24.out; have := n26.out; have := n46.out; omega)); replace G6 := Lib.hid (grown_block hg7 G6.out (fun e => by injection e; have := n24.out; have := n26.out; have := n46.out; omega)); replace L7 := Lib.hid (L7.out.grown hg7 (fun k hk e => by have := m2.out; have := m4.out; have := m6.out;  have := n24.out; have := n26.out; have := n46.out; omega) (by decide)); replace G2 := Lib.hid q7; clear hg7 hs7 q7)
  have s3 := Lib.hid (show x3.heap.size < y7.heap.size from block_lt G6.out)
  have hmk := make_seven
  refine (wire_two _ _ ((two_rd y7).rdT)).mono ?_
  rintro e z8 ⟨b8, F8, rfl, hF, hb⟩
  have ha8 := (Below.refl y7.heap.size y7).alloc (Nat.le_refl _) (.cells #[.int .u8 0, .int .u8 2] 5)
  have hMs8 : y7.heap.size ≤ (y7.alloc (.cells #[.int .u8 0, .int .u8 2] 5)).heap.size := ha8.size
  have hb2 := (Below.refl z8.heap.size z8).alloc (Nat.le_refl _) (.cells #[.int .u8 1] 5)
  have hzz := (ha8.trans (hb.mono hMs8)).trans (hb2.mono (Nat.le_trans hMs8 hb.size))
  have hF2 := Asr.below hF hb2 hb.size
  have hr2 : RdS (fun k => ¬ F8 k) (z8.alloc (.cells #[.int .u8 1] 5)) (some ⟨z8.heap.size, 0, none⟩) 1 [1] := (one_rd z8).mono fun k hk hf => by have := (hF.2.2 k hf).2; omega
  have Hzz := Lib.hid hzz
  have HF2 := Lib.hid hF2
  have Hr2 := Lib.hid hr2
  have HMs := Lib.hid hMs8
  have HM2 := Lib.hid (Nat.le_trans hb.size hb2.size)
  clear hF hb ha8 hMs8 hb2 hzz hF2 hr2
  go_wp2_with fail
  refine (K5.out _ (Hw.out.trans (Hzz.out.mono Hw.out.size)) _ (Nat.le_trans Hw.out.size HMs.out) HM2.out b8 F8 HF2.out _ Hr2.out).mono ?_
  rintro e x8 ⟨A8, c8, B8, e8, rfl, hr, hl, hb⟩
  have hx := Hzz.out.trans (hb.mono HMs.out)
  replace G2 := Lib.hid ((hx.block _ (block_lt G2.out)).trans G2.out)
  replace G4 := Lib.hid ((hx.block _ (block_lt G4.out)).trans G4.out)
  replace G6 := Lib.hid ((hx.block _ (block_lt G6.out)).trans G6.out)
  replace L7 := Lib.hid (L7.out.below hx (by decide))
  replace Hw := Lib.hid (Hw.out.trans (hx.mono Hw.out.size))
  have L8 := Lib.hid (hl.mono (G := fun k => y7.heap.size ≤ k) fun k hk => Nat.le_trans HMs.out hk)
  obtain ⟨bb8, of8, hB, _⟩ := two_faults hl
  subst hB
  clear hr hl hb hx Hzz HF2 Hr2 HMs HM2
  go_wp2_with (refine wpl_storeB flatOut rfl (.tmp 4) (.tmp 89) rfl _ rfl _ rfl G4.out rfl rfl rfl ?_; intro y8 q8 hg8 hs8; replace Hw := Lib.hid (below_grown Hw.out hg8 Hw.out.size (by have := HwA.out; have := HwB.out; have := HwC.out; omega)); replace G2 := Lib.hid (grown_block hg8 G2.out (fun e => by injection e; have := n24.out; have := n26.out; have := n46.out; omega)); replace G6 := Lib.hid (grown_block hg8 G6.out (fun e => by injection e; have := n24.out; have := n26.out; have := n46.out; omega)); replace L7 := Lib.hid (L7.out.grown hg8 (fun k hk e => by have := m2.out; have := m4.out; have := m6.out; have := s3.out; have := n24.out; have := n26.out; have := n46.out; omega) (by decide)); replace L8 := Lib.hid (L8.out.grown hg8 (fun k hk e => by have := m2.out; have := m4.out; have := m6.out; have := s3.out; have := n24.out; have := n26.out; have := n46.out; omega) (by decide)); replace G4 := Lib.hid q8; clear hg8 hs8 q8)
  have s4 := Lib.hid (show x3.heap.size < y8.heap.size from block_lt G6.out)
  have ha9 := Lib.hid ((Below.refl y8.heap.size y8).alloc (Nat.le_refl _) (.cells #[.int .u8 0, .int .u8 0, .int .u8 0, .int .u8 0, .int .u8 0, .int .u8 0, .int .u8 0] 5))
  refine (K6.out _ (Hw.out.trans (ha9.out.mono Hw.out.size)) _ (zeros_rd y8).rdT).mono ?_
  rintro e x9 ⟨A9, c9, B9, e9, rfl, hr, hl, hb⟩
  have hx := ha9.out.trans (hb.mono ha9.out.size)
  replace G2 := Lib.hid ((hx.block _ (block_lt G2.out)).trans G2.out)
  replace G4 := Lib.hid ((hx.block _ (block_lt G4.out)).trans G4.out)
  replace G6 := Lib.hid ((hx.block _ (block_lt G6.out)).trans G6.out)
  replace L7 := Lib.hid (L7.out.below hx (by decide))
  replace L8 := Lib.hid (L8.out.below hx (by decide))
  replace Hw := Lib.hid (Hw.out.trans (hx.mono Hw.out.size))
  clear hr hl hb hx ha9 hmk
  go_wp2_with (refine wpl_storeB flatOut rfl (.tmp 6) (.tmp 97) rfl _ rfl _ rfl G6.out rfl rfl rfl ?_; intro y9 q9 hg9 hs9; replace Hw := Lib.hid (below_grown Hw.out hg9 Hw.out.size (by have := HwA.out; have := HwB.out; have := HwC.out; omega)); replace G2 := Lib.hid (grown_block hg9 G2.out (fun e => by injection e; have := n24.out; have := n26.out; have := n46.out; omega)); replace G4 := Lib.hid (grown_block hg9 G4.out (fun e => by injection e; have := n24.out; have := n26.out; have := n46.out; omega)); replace L7 := Lib.hid (L7.out.grown hg9 (fun k hk e => by have := m2.out; have := m4.out; have := m6.out; have := s3.out; have := s4.out; have := n24.out; have := n26.out; have := n46.out; omega) (by decide)); replace L8 := Lib.hid (L8.out.grown hg9 (fun k hk e => by have := m2.out; have := m4.out; have := m6.out; have := s3.out; have := s4.out; have := n24.out; have := n26.out; have := n46.out; omega) (by decide)); have a0 := block_at G2.out (i := 0) (v := .int .u8 4) rfl; have b0 := block_at G4.out (i := 0) (v := .int .u8 4) rfl; have d0 := block_at q9 (i := 0) (v := .int .u8 0) rfl; obtain ⟨f1, f2⟩ := faults_at L7.out; obtain ⟨f3, f4⟩ := faults_at L8.out; clear hg9 hs9 q9)
  go_ret
  exact ⟨rfl, Hw.out⟩

end Go.Proofs.YtkfkcpogcobmbaaDoor
