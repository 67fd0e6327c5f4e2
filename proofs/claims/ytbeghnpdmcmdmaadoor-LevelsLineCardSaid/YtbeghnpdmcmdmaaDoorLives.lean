/-
  Helper text: the contract of the function that tries the examples of the chapter; no statement is proved here.
-/
import Derived.Test.YtbeghnpdmcmdmaaDoorList
import Derived.Deep.RegionHeld3
import Derived.Deep.DrawnRows
import Derived.Deep.RegionLaw
namespace Go.Proofs.YtbeghnpdmcmdmaaDoor
open Go Go.RowKit

attribute [local go_sem ↓] Go.wp_at_zero Go.wp_at_succ

set_option maxHeartbeats 3200000 in
set_option maxRecDepth 100000 in
theorem listens_any (w : World) (hL : Laid w) (A : Option Addr) (c : Nat) (xs : List UInt8) (h : Rd w w.heap.size A c xs) (h1 : 0 < xs.length) (hl : xs.length ≤ 10000)
    (hgood : listenL (([0, 0] ++ xs ++ [0]) ++ xs.take (xs.length - 1)) = ([[210]], 1)) :
    Calls Tryd.prog 33 #[.slice A xs.length c] w (ResB w true) := by
  have hle := h.le
  have hcap := h.cap
  have hown0 := own_built w 44 [0, 0] (by simp)
  have hb0 := (Below.refl w.heap.size w).alloc (Nat.le_refl _) (.cells #[.int .u8 0, .int .u8 0] 44)
  have hz1 : (0 : Int) ≤ (xs.length : Int) - 1 := by omega
  have hz2 : (xs.length : Int) - 1 ≤ (c : Int) := by omega
  have hlt : (xs.take (xs.length - 1)).length = xs.length - 1 := by rw [List.length_take]; omega
  have hrt := h.take (k := xs.length - 1) (by omega)
  generalize xs.take (xs.length - 1) = ts at hgood hlt hrt
  have hwr : IntKind.i64.wrap ((xs.length : Int) - 1) = (ts.length : Int) := by rw [IntWalk.i64_in _ (by omega)]; omega
  have hsl := fun W : World => sliceS_h A xs.length c (ts.length : Int) W (by omega) (by omega)
  rw [Int.toNat_natCast] at hsl
  have hlx : ts.length ≤ 10000 := by omega
  clear hlt hz1 hz2
  have Hg := Lib.hid hgood
  clear hgood
  go_enter Tryd.func33, Tryd.ntmps33
  go_wp2_with (at_builtin; refine wpl_appendN Tryd.underlying33 Tryd.info44 rfl (.tmp 6) (.tmp 7) rfl w.heap.size _ [0, 0] rfl hown0 w.heap.size c A xs (h.below hb0) rfl (by simp; omega) hb0.size ?_; intro v1 w1 hown1 hb1)
  have hb01 := hb0.trans hb1
  have hlen1 : ([0, 0] ++ xs).length ≤ 10002 := by simp; omega
  generalize hys : [0, 0] ++ xs = ys at hown1 hlen1
  have Hys := Lib.hid hys
  clear hys
  have hsz1 := hb01.size
  have hro := (rd_built w1 44 [0] (by simp)).drew
  have hol := (hown1.alloc (.cells ([0].map bv).toArray 44)).drew
  have hbl := ((Below.refl w.heap.size w1).alloc hb01.size (.cells ([0].map bv).toArray 44)).drew
  go_region_held3 (fun w' => True) (exact trivial)
    ((first | (refine step_appendN Tryd.underlying33 Tryd.info44 (by rfl) (.tmp 9) (.tmp 10) (by rfl) w.heap.size v1 ys (by rfl) hol _ 1 (some ⟨w1.heap.size, 0, none⟩) [0] hro (by rfl) (by simp; omega) (by simp; omega) ?_; intro v2 w2 hown2 hb2 hg2 hat2) | (refine step_appendN Tryd.underlying33 Tryd.info44 (by rfl) (.tmp 11) (.tmp 16) (by rfl) w.heap.size v2 (ys ++ [0]) (by rfl) hown2 w.heap.size c A ts ((hrt.below hb01).below (hbl.trans hb2)) (by rfl) (by simp; omega) (hb01.trans (hbl.trans hb2)).size ?_; intro v3 w3 hown3 hb3 hg3 hat3)))
  have hb03 := ((hb01.trans hbl).trans hb2).trans hb3
  obtain ⟨A3, c3, rfl, hr3⟩ := Rd.of_own hown3
  have hlen3 : (ys ++ [0] ++ ts).length ≤ 100000 := by simp; omega
  have hLi := listen_any w3 (hL.below hb03) A3 c3 _ hr3 hlen3
  have hg := Hg.out
  rw [Hys.out] at hg
  rw [hg] at hLi
  generalize ys ++ [0] ++ ts = zs at hr3 hLi
  have HLi := Lib.hid hLi
  clear hLi hg hsl hwr hro hol hb2 hb3 hlen3
  go_wp2_with fail
  refine HLi.out.mono ?_
  rintro e w4 ⟨A4, c4, rfl, hr4, hb4⟩
  obtain ⟨b, off, A5, c5, rfl, hbB, hcell, hr5⟩ := hr4.at_ (k := 0) (by simp)
  have hcell' : w4.cell? ⟨b, off, none⟩ = some (.slice A5 1 c5) := hcell
  have hstr : (convert 22 9 (.slice A5 1 c5)).run Tryd.prog w4 = .ok (.string ⟨#[210]⟩) w4 := hr5.str Tryd.underlying22 Tryd.underlying5 Tryd.underlying9
  have hb04 := hb03.trans (hb4.mono hb03.size)
  clear hcell hr5
  go_wp2
  go_ret
  exact ⟨rfl, hb04⟩

theorem below_step {w wa wb : World} {o : Obj} (h : Below w.heap.size w wa) (hb : Below (wa.alloc o).heap.size (wa.alloc o) wb) : Below w.heap.size w wb :=
  (h.alloc h.size o).trans (hb.mono (by have := h.size; simp; omega))
theorem Rd.step {wa wb : World} {o : Obj} {A : Option Addr} {c : Nat} {xs : List UInt8} (h : Rd wa wa.heap.size A c xs) (hb : Below (wa.alloc o).heap.size (wa.alloc o) wb) : Rd wb wb.heap.size A c xs :=
  ((h.alloc (Nat.le_refl _) o).more (by simp)).belowTop hb
theorem rd_top (w : World) (e : TypeId) (zs : List UInt8) (hl : zs.length ≤ 1000000000) : Rd (w.alloc (.cells (zs.map bv).toArray e)) (w.alloc (.cells (zs.map bv).toArray e)).heap.size (some ⟨w.heap.size, 0, none⟩) zs.length zs :=
  (rd_built w e zs hl).more (by simp)

theorem c_bits (W : World) (A : Option Addr) (c : Nat) (h : Rd W W.heap.size A c [1]) : Calls Tryd.prog 10 #[.slice A 1 c] W (Res1 W [1, 0, 0, 0, 0, 0, 0, 0]) := by
  have := bits_any W A c [1] h (by simp)
  rw [show bitsL [1] = [1, 0, 0, 0, 0, 0, 0, 0] from by decide +kernel] at this
  exact this
theorem c_bytes (W : World) (A : Option Addr) (c : Nat) (h : Rd W W.heap.size A c [0, 0, 0, 0, 0, 0, 0, 1]) : Calls Tryd.prog 11 #[.slice A 8 c] W (ResF W [128] 0) := by
  have := bytes_good W A c [0, 0, 0, 0, 0, 0, 0, 1] h (by simp) (by decide +kernel) (by decide +kernel)
  rw [show bytesL [0, 0, 0, 0, 0, 0, 0, 1] = [128] from by decide +kernel] at this
  exact this
theorem c_seven (W : World) (A : Option Addr) (c : Nat) (h : Rd W W.heap.size A c [0, 0, 0, 0, 0, 0, 0]) : Calls Tryd.prog 11 #[.slice A 7 c] W (ResE W [] 5) :=
  bytes_width W A c [0, 0, 0, 0, 0, 0, 0] h (by simp) (by decide +kernel) (by decide +kernel)
theorem c_two (W : World) (A : Option Addr) (c : Nat) (h : Rd W W.heap.size A c [2]) : Calls Tryd.prog 11 #[.slice A 1 c] W (ResE W [] 1) :=
  bytes_bad W A c [2] h (by simp) (by decide +kernel)
theorem c_stuff (W : World) (A : Option Addr) (c : Nat) (h : Rd W W.heap.size A c [1, 1, 1, 1, 1, 1, 1]) : Calls Tryd.prog 15 #[.slice A 7 c] W (ResE W [1, 1, 1, 1, 1, 1, 0, 1] 0) := by
  have := stuff_any W A c [1, 1, 1, 1, 1, 1, 1] h (by simp)
  rw [show ifV (validL [1, 1, 1, 1, 1, 1, 1]) (stuffL [1, 1, 1, 1, 1, 1, 1]) = [1, 1, 1, 1, 1, 1, 0, 1] from by decide +kernel, show errV (validL [1, 1, 1, 1, 1, 1, 1]) 1 = 0 from by decide +kernel] at this
  exact this
theorem c_unstuff (W : World) (A : Option Addr) (c : Nat) (h : Rd W W.heap.size A c [1, 1, 1, 1, 1, 1, 0]) : Calls Tryd.prog 16 #[.slice A 7 c] W (ResE W [1, 1, 1, 1, 1, 1] 0) := by
  have := unstuff_good W A c [1, 1, 1, 1, 1, 1, 0] h (by simp) (by decide +kernel)
  rw [show optL (unstuffL [1, 1, 1, 1, 1, 1, 0]) = [1, 1, 1, 1, 1, 1] from by decide +kernel, show optE 4 (unstuffL [1, 1, 1, 1, 1, 1, 0]) = 0 from by decide +kernel] at this
  exact this
theorem c_unstuff6 (W : World) (A : Option Addr) (c : Nat) (h : Rd W W.heap.size A c [1, 1, 1, 1, 1, 1]) : Calls Tryd.prog 16 #[.slice A 6 c] W (ResE W [] 4) := by
  have := unstuff_good W A c [1, 1, 1, 1, 1, 1] h (by simp) (by decide +kernel)
  rw [show optL (unstuffL [1, 1, 1, 1, 1, 1]) = [] from by decide +kernel, show optE 4 (unstuffL [1, 1, 1, 1, 1, 1]) = 4 from by decide +kernel] at this
  exact this
def line210 : List UInt8 := [1, 0, 1, 0, 1, 0, 1, 1, 0, 0, 1, 0, 0, 1, 1, 1, 2, 2, 0]
theorem c_send (W : World) (hL : Laid W) (A : Option Addr) (c : Nat) (h : Rd W W.heap.size A c [210]) : Calls Tryd.prog 26 #[.slice A 1 c] W (ResE W line210 0) := by
  have := send_good W hL A c [210] h (by simp) (by simp)
  rw [show sendL [210] = line210 from by decide +kernel] at this
  exact this
theorem c_receive (W : World) (hL : Laid W) (A : Option Addr) (c : Nat) (h : Rd W W.heap.size A c [1, 0]) : Calls Tryd.prog 27 #[.slice A 2 c] W (ResF W [] 4) := by
  have := receive_any W hL A c [1, 0] h (by simp)
  rw [show (recvL [1, 0]).1 = [] from by decide +kernel, show (recvL [1, 0]).2 = 4 from by decide +kernel] at this
  exact this
theorem c_listens (W : World) (hL : Laid W) (A : Option Addr) (c : Nat) (h : Rd W W.heap.size A c line210) : Calls Tryd.prog 33 #[.slice A 19 c] W (ResB W true) :=
  listens_any W hL A c line210 h (by decide) (by decide) (by decide +kernel)
theorem c_states (W : World) (A : Option Addr) (c : Nat) (h : Rd W W.heap.size A c line210) : Calls Tryd.prog 22 #[.slice A 19 c] W (Res1 W line210) :=
  states_any W A c line210 h (by decide)

set_option maxHeartbeats 3200000 in
set_option maxRecDepth 100000 in
theorem lives_any (w : World) (hL : Laid w) : Calls Tryd.prog 14 #[] w (ResB w true) := by
  have hmk7 := fun W : World => make_full 7 W (by omega) (by omega)
  rw [show (7 : Int).toNat = 7 from rfl] at hmk7
  go_enter Tryd.func14, Tryd.ntmps14
  go_wp2_with fail
  refine (c_bits _ _ _ (rd_top w 5 [1] (by simp))).mono ?_
  rintro e w1 ⟨A1, d1, rfl, hr1, hb1⟩
  have b1 := below_step (Below.refl _ w) hb1
  go_wp2_with fail
  refine (c_bytes _ _ _ (rd_top w1 5 [0, 0, 0, 0, 0, 0, 0, 1] (by simp))).mono ?_
  rintro e w2 ⟨A2, d2, rfl, hr2, hb2, _⟩
  have b2 := below_step b1 hb2
  have hr1 := hr1.step hb2
  go_wp2_with fail
  refine (c_seven _ _ _ (((Row.made w2 7 5).rd (by simp)))).mono ?_
  rintro e w3 ⟨A3, d3, rfl, hr3, hb3⟩
  have b3 := below_step b2 hb3
  have hr1 := hr1.step hb3
  have hr2 := hr2.step hb3
  go_wp2_with fail
  refine (c_two _ _ _ (rd_top w3 5 [2] (by simp))).mono ?_
  rintro e w4 ⟨A4, d4, rfl, hr4, hb4⟩
  have b4 := below_step b3 hb4
  have hr1 := hr1.step hb4
  have hr2 := hr2.step hb4
  have s1 : (convert 22 9 (.slice A1 8 d1)).run Tryd.prog w4 = .ok (.string ⟨#[1, 0, 0, 0, 0, 0, 0, 0]⟩) w4 := hr1.str Tryd.underlying22 Tryd.underlying5 Tryd.underlying9
  have s2 : (convert 22 9 (.slice A2 1 d2)).run Tryd.prog w4 = .ok (.string ⟨#[128]⟩) w4 := hr2.str Tryd.underlying22 Tryd.underlying5 Tryd.underlying9
  clear hmk7
  go_wp2_with fail
  clear s1 s2
  refine (c_stuff _ _ _ (rd_top w4 5 [1, 1, 1, 1, 1, 1, 1] (by simp))).mono ?_
  rintro e w5 ⟨A5, d5, rfl, hr5, hb5⟩
  have b5 := below_step b4 hb5
  go_wp2_with fail
  refine (c_unstuff _ _ _ (rd_top w5 5 [1, 1, 1, 1, 1, 1, 0] (by simp))).mono ?_
  rintro e w6 ⟨A6, d6, rfl, hr6, hb6⟩
  have b6 := below_step b5 hb6
  have hr5 := hr5.step hb6
  go_wp2_with fail
  refine (c_unstuff6 _ _ _ (rd_top w6 5 [1, 1, 1, 1, 1, 1] (by simp))).mono ?_
  rintro e w7 ⟨A7, d7, rfl, hr7, hb7⟩
  have b7 := below_step b6 hb7
  have hr5 := hr5.step hb7
  have hr6 := hr6.step hb7
  have s1 : (convert 22 9 (.slice A5 8 d5)).run Tryd.prog w7 = .ok (.string ⟨#[1, 1, 1, 1, 1, 1, 0, 1]⟩) w7 := hr5.str Tryd.underlying22 Tryd.underlying5 Tryd.underlying9
  have s2 : (convert 22 9 (.slice A6 6 d6)).run Tryd.prog w7 = .ok (.string ⟨#[1, 1, 1, 1, 1, 1]⟩) w7 := hr6.str Tryd.underlying22 Tryd.underlying5 Tryd.underlying9
  go_wp2_with fail
  clear s1 s2
  refine (c_send _ (hL.below (b7.alloc b7.size _)) _ _ (rd_top w7 5 [210] (by simp))).mono ?_
  rintro e w8 ⟨A8, d8, rfl, hr8, hb8⟩
  have b8 := below_step b7 hb8
  go_wp2_with fail
  refine (send_none w8 none 0).mono ?_
  rintro e w9 ⟨A9, d9, rfl, hr9, hb9⟩
  have b9 := b8.trans (hb9.mono b8.size)
  have hr8 := hr8.belowTop hb9
  go_wp2_with fail
  refine (c_receive _ (hL.below (b9.alloc b9.size _)) _ _ (rd_top w9 44 [1, 0] (by simp))).mono ?_
  rintro e wa ⟨Aa, da, rfl, hra, hba, _⟩
  have ba := below_step b9 hba
  have hr8 := hr8.step hba
  go_wp2_with fail
  refine (c_states _ _ _ hr8).mono ?_
  rintro e wb ⟨Ab, db, rfl, hrb, hbb⟩
  have bb := ba.trans (hbb.mono ba.size)
  have hr8 := hr8.belowTop hbb
  have s1 : (convert 22 9 (.slice Ab 19 db)).run Tryd.prog wb = .ok (.string ⟨#[1, 0, 1, 0, 1, 0, 1, 1, 0, 0, 1, 0, 0, 1, 1, 1, 2, 2, 0]⟩) wb := hrb.str Tryd.underlying22 Tryd.underlying5 Tryd.underlying9
  rw [show line210.length = 19 from rfl]
  go_wp2_with fail
  clear s1
  refine (c_listens _ (hL.below bb) _ _ hr8).mono ?_
  rintro e wc ⟨rfl, hbc⟩
  have bc := bb.trans (hbc.mono bb.size)
  go_wp2
  go_ret
  exact ⟨rfl, bc⟩

end Go.Proofs.YtbeghnpdmcmdmaaDoor
