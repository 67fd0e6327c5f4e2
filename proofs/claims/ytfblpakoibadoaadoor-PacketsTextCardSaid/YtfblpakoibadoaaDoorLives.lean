/-
  Helper text: the contract of the function that tries the examples of the chapter; no statement is proved here.
-/
import Derived.Test.YtfblpakoibadoaaDoorDecAll
import Derived.Test.YtfblpakoibadoaaDoorTxt
namespace Go.Proofs.YtfblpakoibadoaaDoor
open Go Go.RowKit

def rSetup : Rg := ⟨13, 21, 14, 0, 0, 0, false, false, 0, .slice none 0 0, 0⟩
def rData (A : Option Addr) (n c : Nat) : Rg := ⟨11, 0, 0, 0, 0, 0, false, false, 0, .slice A n c, 0⟩
def rSplit : Rg := ⟨8, 0, 0, 0, 1, 2, true, false, 2, .slice none 0 0, 0⟩
def rSof : Rg := ⟨5, 0, 0, 1, 0, 0, false, false, 0, .slice none 0 0, 0⟩
def rAck : Rg := ⟨2, 1, 0, 0, 0, 0, false, false, 0, .slice none 0 0, 0⟩
theorem e_setup (W : World) (hL : Laid W) : Calls Tryd.prog 12 #[.agg (pcells rSetup)] W (ResOE W 5 [45, 21, 239] 0) := by
  have := encode_any W hL rSetup ⟨by decide, by decide, by decide, by decide, by decide, by decide, by decide, by decide⟩ none 0 [] (Rd.nil _ _) rfl
  rwa [show errR rSetup [] = 0 from by decide +kernel, show encE rSetup [] = [45, 21, 239] from by decide +kernel] at this
theorem e_data (W : World) (hL : Laid W) (A : Option Addr) (c : Nat) (h : Rd W W.heap.size A c [0]) : Calls Tryd.prog 12 #[.agg (pcells (rData A 1 c))] W (ResOE W 5 [75, 0, 64, 191] 0) := by
  have := encode_any W hL (rData A 1 c) ⟨by show 11 < 256; decide, by show 0 < 256; decide, by show 0 < 256; decide, by show 0 < 65536; decide, by show 0 < 256; decide, by show 0 < 256; decide, by show 0 < 256; decide, by show 0 < 4294967296; decide⟩ A c [0] h rfl
  have e1 : errR (rData A 1 c) [0] = 0 := by
    have : errR (rData none 1 0) [0] = 0 := by decide +kernel
    exact this
  have e2 : encE (rData A 1 c) [0] = [75, 0, 64, 191] := by
    have : encE (rData none 1 0) [0] = [75, 0, 64, 191] := by decide +kernel
    exact this
  rwa [e1, e2] at this
theorem e_split (W : World) (hL : Laid W) : Calls Tryd.prog 12 #[.agg (pcells rSplit)] W (ResOE W 5 [120, 129, 2, 220] 0) := by
  have := encode_any W hL rSplit ⟨by decide, by decide, by decide, by decide, by decide, by decide, by decide, by decide⟩ none 0 [] (Rd.nil _ _) rfl
  rwa [show errR rSplit [] = 0 from by decide +kernel, show encE rSplit [] = [120, 129, 2, 220] from by decide +kernel] at this
theorem d_sof (W : World) (hL : Laid W) (A : Option Addr) (c : Nat) (h : Rd W W.heap.size A c [165, 1, 232]) : Calls Tryd.prog 13 #[.slice A 3 c] W
    fun e w' => ∃ A' c', e = .returned (.tuple #[.agg #[.int .u8 5, .int .u8 0, .int .u8 0, .int .u16 1, .int .u8 0, .int .u8 0, .bool false, .bool false, .int .u8 0, .slice A' 0 c'], .int .i64 0]) ∧ Rd w' w'.heap.size A' c' [] ∧ Below W.heap.size W w' := by
  have := decode_any W hL A c [165, 1, 232] h
  rw [show decR [165, 1, 232] = (rSof, [], 0) from by kernel_rfl] at this
  refine this.mono ?_
  rintro e w' ⟨v, rfl, o, b⟩
  obtain ⟨A', c', rfl, r⟩ := Rd.of_own o
  exact ⟨A', c', rfl, r, b⟩
theorem d_width (W : World) (hL : Laid W) (A : Option Addr) (c : Nat) (h : Rd W W.heap.size A c [210, 0]) : Calls Tryd.prog 13 #[.slice A 2 c] W (ResPk W (bare 0) [] 5) := by
  have := decode_any W hL A c [210, 0] h
  rwa [show decR [210, 0] = (bare 0, [], 5) from by kernel_rfl] at this
theorem d_sum (W : World) (hL : Laid W) (A : Option Addr) (c : Nat) (h : Rd W W.heap.size A c [45, 21, 238]) : Calls Tryd.prog 13 #[.slice A 3 c] W (ResPk W (bare 0) [] 10) := by
  have := decode_any W hL A c [45, 21, 238] h
  rwa [show decR [45, 21, 238] = (bare 0, [], 10) from by kernel_rfl] at this
theorem c_ack (W : World) (hL : Laid W) : Calls Tryd.prog 14 #[.agg (pcells rAck)] W (ResI W 1) := by
  have := check_any W hL rAck ⟨by decide, by decide, by decide, by decide, by decide, by decide, by decide, by decide⟩ none 0 [] (Rd.nil _ _) rfl
  rwa [show errR rAck [] = 1 from by decide +kernel] at this
def rSofV (A : Option Addr) (c : Nat) : Rg := ⟨5, 0, 0, 1, 0, 0, false, false, 0, .slice A 0 c, 0⟩
theorem t_sof (W : World) (hL : Laid W) (A : Option Addr) (c : Nat) (h : Rd W W.heap.size A c []) : Calls Tryd.prog 9 #[.agg (pcells (rSofV A c))] W (ResS W [115, 111, 102, 32, 49]) := by
  have e : Lib.join [[115, 111, 102], Lib.decDigits (rSofV A c).frame] [32] = [115, 111, 102, 32, 49] := by
    rw [show Lib.decDigits (rSofV A c).frame = [49] from by show Lib.decDigits 1 = _; unfold Lib.decDigits; rfl]
    decide
  have hE : errR (rSofV A c) [] = 0 := by
    have : errR (rSofV none 0) [] = 0 := by decide +kernel
    exact this
  have := text_sof W hL (rSofV A c) ⟨by show 5 < 256; decide, by show 0 < 256; decide, by show 0 < 256; decide, by show 1 < 65536; decide, by show 0 < 256; decide, by show 0 < 256; decide, by show 0 < 256; decide, by show 0 < 4294967296; decide⟩ A c [] h rfl hE rfl (by show 1 < 100; decide) (by rw [e]; decide)
  rwa [e] at this

theorem Rd.up {w : World} {A : Option Addr} {c : Nat} {xs : List UInt8} (h : Rd w w.heap.size A c xs) (o : Obj) : Rd (w.alloc o) (w.alloc o).heap.size A c xs := (h.alloc (Nat.le_refl _) o).more (by simp)
theorem below_step {w wa wb : World} {o : Obj} (h : Below w.heap.size w wa) (hb : Below (wa.alloc o).heap.size (wa.alloc o) wb) : Below w.heap.size w wb :=
  (h.alloc h.size o).trans (hb.mono (by have := h.size; simp; omega))
theorem rd_top (w : World) (e : TypeId) (zs : List UInt8) (hl : zs.length ≤ 1000000000) : Rd (w.alloc (.cells (zs.map bv).toArray e)) (w.alloc (.cells (zs.map bv).toArray e)).heap.size (some ⟨w.heap.size, 0, none⟩) zs.length zs :=
  (rd_built w e zs hl).more (by simp)

set_option maxHeartbeats 3200000 in
set_option maxRecDepth 100000 in
theorem lives_any (w : World) (hL : Laid w) : Calls Tryd.prog 7 #[] w (ResB w true) := by
  go_enter Tryd.func7, Tryd.ntmps7
  go_wp2_with fail
  refine (e_setup _ hL).mono ?_
  rintro e w1 ⟨v1, rfl, o1, b1⟩
  obtain ⟨A1, c1, rfl, r1⟩ := Rd.of_own o1
  clear o1
  go_wp2_with fail
  refine (e_data _ (hL.below (b1.alloc b1.size _)) _ _ (rd_top w1 5 [0] (by decide))).mono ?_
  rintro e w2 ⟨v2, rfl, o2, b2⟩
  obtain ⟨A2, c2, rfl, r2⟩ := Rd.of_own o2
  have r1 := ((r1.alloc (Nat.le_refl _) _).more (by simp)).belowTop b2
  have b2 := below_step b1 b2
  clear b1 o2
  go_wp2_with fail
  refine (e_split _ (hL.below b2)).mono ?_
  rintro e w3 ⟨v3, rfl, o3, b3⟩
  obtain ⟨A3, c3, rfl, r3⟩ := Rd.of_own o3
  have r1 := r1.belowTop b3
  have r2 := r2.belowTop b3
  have b3 := b2.trans (b3.mono b2.size)
  clear b2 o3
  have s1 : (convert 27 9 (.slice A1 3 c1)).run Tryd.prog w3 = .ok (.string ⟨#[45, 21, 239]⟩) w3 := r1.str Tryd.underlying27 Tryd.underlying5 Tryd.underlying9
  have s2 : (convert 27 9 (.slice A2 4 c2)).run Tryd.prog w3 = .ok (.string ⟨#[75, 0, 64, 191]⟩) w3 := r2.str Tryd.underlying27 Tryd.underlying5 Tryd.underlying9
  have s3 : (convert 27 9 (.slice A3 4 c3)).run Tryd.prog w3 = .ok (.string ⟨#[120, 129, 2, 220]⟩) w3 := r3.str Tryd.underlying27 Tryd.underlying5 Tryd.underlying9
  clear r1 r2 r3
  go_wp2_with fail
  clear s1 s2 s3
  refine (d_sof _ (hL.below (b3.alloc b3.size _)) _ _ (rd_top w3 5 [165, 1, 232] (by decide))).mono ?_
  rintro e w4 ⟨A4, c4, rfl, r4, b4⟩
  have b4 := below_step b3 b4
  clear b3
  have hn4 := heap_alloc_new w4 (.cells #[.int .u8 5, .int .u8 0, .int .u8 0, .int .u16 1, .int .u8 0, .int .u8 0, .bool false, .bool false, .int .u8 0, .slice A4 0 c4] 29)
  have hb4 := Lib.hid (b4.alloc b4.size (.cells #[.int .u8 5, .int .u8 0, .int .u8 0, .int .u16 1, .int .u8 0, .int .u8 0, .bool false, .bool false, .int .u8 0, .slice A4 0 c4] 29))
  have hr4 := Lib.hid (r4.up (.cells #[.int .u8 5, .int .u8 0, .int .u8 0, .int .u16 1, .int .u8 0, .int .u8 0, .bool false, .bool false, .int .u8 0, .slice A4 0 c4] 29))
  clear r4 b4
  go_wp2_with fail
  replace hb4 : Hid (Below w.heap.size w (w4.alloc (.cells #[.int .u8 5, .int .u8 0, .int .u8 0, .int .u16 1, .int .u8 0, .int .u8 0, .bool false, .bool false, .int .u8 0, .slice A4 0 c4] 29))) := hb4
  have hrt := rd_top (w4.alloc (.cells #[.int .u8 5, .int .u8 0, .int .u8 0, .int .u16 1, .int .u8 0, .int .u8 0, .bool false, .bool false, .int .u8 0, .slice A4 0 c4] 29)) 5 [210, 0] (by decide)
  rw [show (w4.alloc (.cells #[.int .u8 5, .int .u8 0, .int .u8 0, .int .u16 1, .int .u8 0, .int .u8 0, .bool false, .bool false, .int .u8 0, .slice A4 0 c4] 29)).heap.size = w4.heap.size + 1 by simp] at hrt
  generalize w4.alloc (.cells #[.int .u8 5, .int .u8 0, .int .u8 0, .int .u16 1, .int .u8 0, .int .u8 0, .bool false, .bool false, .int .u8 0, .slice A4 0 c4] 29) = W4 at hrt hb4 hr4 hn4 ⊢
  refine (d_width _ (hL.below (hb4.out.alloc hb4.out.size _)) _ _ hrt).mono ?_
  rintro e w5 ⟨v5, rfl, _, b5⟩
  have hn5 := ((b5.block _ (Nat.lt_trans (lt_of_block hn4) (by simp))).trans ((Below.heap_alloc W4 (.cells (([210, 0] : List UInt8).map bv).toArray 5) _ (lt_of_block hn4)).trans hn4))
  have hr5 := Lib.hid ((hr4.out.up (.cells (([210, 0] : List UInt8).map bv).toArray 5)).belowTop b5)
  have hb5 := Lib.hid (below_step hb4.out b5)
  clear hn4 b5 hr4 hb4
  go_wp2_with fail
  refine (d_sum _ (hL.below (hb5.out.alloc hb5.out.size _)) _ _ (rd_top w5 5 [45, 21, 238] (by decide))).mono ?_
  rintro e w6 ⟨v6, rfl, _, b6⟩
  have hn6 := Lib.hid ((b6.block _ (Nat.lt_trans (lt_of_block hn5) (by simp))).trans ((Below.heap_alloc w5 (.cells (([45, 21, 238] : List UInt8).map bv).toArray 5) _ (lt_of_block hn5)).trans hn5))
  have hr6 := Lib.hid ((hr5.out.up (.cells (([45, 21, 238] : List UInt8).map bv).toArray 5)).belowTop b6)
  have hb6 := Lib.hid (below_step hb5.out b6)
  clear hn5 b6 hr5 hb5
  have q0 : w6.cell? ⟨w4.heap.size, 0, none⟩ = some (.int .u8 5) := cell_at hn6.out 0
  have q1 : w6.cell? ⟨w4.heap.size, 1, none⟩ = some (.int .u8 0) := cell_at hn6.out 1
  have q2 : w6.cell? ⟨w4.heap.size, 2, none⟩ = some (.int .u8 0) := cell_at hn6.out 2
  have q3 : w6.cell? ⟨w4.heap.size, 3, none⟩ = some (.int .u16 1) := cell_at hn6.out 3
  have q4 : w6.cell? ⟨w4.heap.size, 4, none⟩ = some (.int .u8 0) := cell_at hn6.out 4
  have q5 : w6.cell? ⟨w4.heap.size, 5, none⟩ = some (.int .u8 0) := cell_at hn6.out 5
  have q6 : w6.cell? ⟨w4.heap.size, 6, none⟩ = some (.bool false) := cell_at hn6.out 6
  have q7 : w6.cell? ⟨w4.heap.size, 7, none⟩ = some (.bool false) := cell_at hn6.out 7
  have q8 : w6.cell? ⟨w4.heap.size, 8, none⟩ = some (.int .u8 0) := cell_at hn6.out 8
  have q9 : w6.cell? ⟨w4.heap.size, 9, none⟩ = some (.slice A4 0 c4) := cell_at hn6.out 9
  go_wp2_with fail
  refine (t_sof w6 (hL.below hb6.out) A4 c4 hr6.out).mono ?_
  rintro e w7 ⟨rfl, b7⟩
  have hb7 := Lib.hid (hb6.out.trans (b7.mono hb6.out.size))
  clear b7 q0 q1 q2 q3 q4 q5 q6 q7 q8 q9
  go_wp2_with fail
  refine (c_ack w7 (hL.below hb7.out)).mono ?_
  rintro e w8 ⟨rfl, b8⟩
  have hb8 := Lib.hid (hb7.out.trans (b8.mono hb7.out.size))
  clear b8
  go_wp2
  go_ret
  exact ⟨rfl, hb8.out⟩

end Go.Proofs.YtfblpakoibadoaaDoor
