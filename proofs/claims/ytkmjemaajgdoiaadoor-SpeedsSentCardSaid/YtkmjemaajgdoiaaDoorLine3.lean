/-
  Helper text: packets on the line; no statement is proved here.
-/
import Derived.Test.YtkmjemaajgdoiaaDoorDecAll
import Derived.Test.YtkmjemaajgdoiaaDoorLvCode
namespace Go.Proofs.YtkmjemaajgdoiaaDoor
open Go Go.RowKit

set_option maxHeartbeats 800000 in
set_option maxRecDepth 100000 in
theorem send3 (w : World) (hL : Laid w) (hV : Lv.Laid w) (r : Rg) (ok : r.Ok) (A : Option Addr) (c : Nat) (xs : List UInt8) (hx : Rd w w.heap.size A c xs) (hd : r.data = .slice A xs.length c) (hE : errR r xs = 0) :
    Calls Tryd.prog 10 #[.agg (pcells r)] w (ResOE w 65 (Lv.sendL (encL r xs)) 0) := by
  have KE := Lib.hid fun W hLW hRW => encode_ok W hLW r ok A c xs hRW hd hE
  have hlen : (encL r xs).length ≤ 1027 := by
    have h1 := err_zero r ok xs hE
    have h2 := contentL_len r xs
    have : xs.length ≤ 1024 := h1.2
    have h3 : (encL r xs).length = (contentL r xs).length + 1 := rfl
    cases hi : isD r.pid
    · have h4 : (contentL r xs).length ≤ 3 := by
        unfold contentL
        rw [hi]
        show (bytesN _ _).length ≤ 3
        rw [bytesN_len]
        exact nbytes_le _
      omega
    · have h4 : (contentL r xs).length = xs.length + 2 := by
        unfold contentL
        rw [hi]
        exact Ck.addL_len xs
      omega
  have hpos : 0 < (encL r xs).length := Nat.succ_pos _
  have KS := Lib.hid fun W hVW A' c' hRW => Lv.send_own W hVW A' c' (encL r xs) hRW hpos hlen
  generalize encL r xs = bs at KE KS
  obtain ⟨p0, p1, p2, p3, p4, p5, p6, p7, p8, p9, p10⟩ := r
  simp only at hd
  subst hd
  simp only [pcells] at KE ⊢
  clear ok hE hlen hpos
  have hbW := (Below.refl w.heap.size w).alloc (Nat.le_refl _) (.cells #[.int .u8 (p0 : Int), .int .u8 (p1 : Int), .int .u8 (p2 : Int), .int .u16 (p3 : Int), .int .u8 (p4 : Int), .int .u8 (p5 : Int), .bool p6, .bool p7, .int .u8 (p8 : Int), .slice A xs.length c] 40)
  have hbWh := Lib.hid hbW
  have hLh := Lib.hid hL
  have hVh := Lib.hid hV
  have hxh := Lib.hid hx
  clear hL hx hbW hV
  go_enter Tryd.func10, Tryd.ntmps10
  go_wp2_with fail
  refine (KE.out _ (hLh.out.below hbWh.out) (hxh.out.belowTop hbWh.out)).mono ?_
  rintro e w1 ⟨v1, rfl, o1, b1⟩
  obtain ⟨A1, c1, rfl, r1⟩ := Rd.of_own o1
  have hb1 := Lib.hid (hbWh.out.trans (b1.mono hbWh.out.size))
  have hr1 := Lib.hid r1
  clear o1 b1 r1
  go_wp2_with fail
  refine (KS.out w1 (hVh.out.below hb1.out) A1 c1 hr1.out).mono ?_
  rintro e w2 ⟨v2, rfl, o2, b2⟩
  have ho2 := Lib.hid (own_base o2 hb1.out.size)
  have hb2 := Lib.hid (hb1.out.trans (b2.mono hb1.out.size))
  clear o2 b2
  go_wp2
  go_ret2
  exact ⟨v2, rfl, ho2.out, hb2.out⟩

/-- A packet and an error number are returned. -/
def ResQ (w : World) (E : Int) (e : Ending) (w' : World) : Prop := ∃ cs, e = .returned (.tuple #[.agg cs, .int .i64 E]) ∧ Below w.heap.size w w'

end Go.Proofs.YtkmjemaajgdoiaaDoor
