/-
  Helper text: contracts of the reference's Sent, Five and Sixteen; no statement is proved here.
-/
import Derived.Test.YtfblpakoibadoaaGreatDoorCkRefB
namespace Go.Proofs.YtfblpakoibadoaaGreatDoor.Ck
open Go Go.RowKit

/-- A number is returned. -/
def ResV (w : World) (K : IntKind) (x : Nat) (e : Ending) (w' : World) : Prop := e = .returned (.int K (x : Int)) ∧ Below w.heap.size w w'

theorem inv_val {x : UInt8} (h : x.toNat ≤ 1) : (Value.int .u8 (1 - (x.toNat : Int)) = bv (1 - x)) ∧ (Value.int .u8 ((1 - (x.toNat : Int)) % 256) = bv (1 - x)) := by
  have : ((1 - x : UInt8).toNat : Int) = 1 - (x.toNat : Int) := by
    rcases (by omega : x.toNat = 0 ∨ x.toNat = 1) with h | h
    · rw [UInt8.toNat_inj.1 (show x.toNat = (0 : UInt8).toNat from h)]; rfl
    · rw [UInt8.toNat_inj.1 (show x.toNat = (1 : UInt8).toNat from h)]; rfl
  constructor
  · show _ = Value.int .u8 _
    rw [this]
  · show _ = Value.int .u8 _
    rw [this, show (1 - (x.toNat : Int)) % 256 = 1 - (x.toNat : Int) from by omega]

def outL (r : List UInt8) (k : Nat) : List UInt8 := (r.drop k).reverse.map fun x => 1 - x
theorem outL_succ (r : List UInt8) {j : Nat} (hj : j < r.length) : outL r j = outL r (j + 1) ++ [1 - r.getD j 0] := by
  unfold outL
  rw [List.drop_eq_getElem_cons hj, List.reverse_cons, List.map_append]
  simp only [List.map_cons, List.map_nil, List.getD, List.getElem?_eq_getElem hj, Option.getD_some]

set_option maxHeartbeats 1600000 in
set_option maxRecDepth 100000 in
theorem sent_any (w : World) (A1 A2 : Option Addr) (c1 c2 : Nat) (bits' p : List UInt8) (h1 : Rd w w.heap.size A1 c1 bits') (h2 : Rd w w.heap.size A2 c2 p) (hb1 : Bit bits') (hp : Bit p) (hl : bits'.length ≤ 800000) (hd0 : 0 < p.length) (hd : p.length ≤ 32) :
    Calls Tryz.prog 37 #[.slice A1 bits'.length c1, .slice A2 p.length c2] w (ResO w 5 (sentL (behL p bits' (List.replicate p.length 1)))) := by
  have KB := Lib.hid (behind_any w A1 A2 c1 c2 bits' p h1 h2 hb1 hp hl hd0 hd)
  have hbit := behL_bit hp bits' (bit_ones p.length)
  have hlen : (behL p bits' (List.replicate p.length 1)).length ≤ 32 := by rw [behL_len, List.length_replicate]; exact hd
  generalize behL p bits' (List.replicate p.length 1) = r at KB hbit hlen ⊢
  clear h1 h2
  go_enter Tryz.func37, Tryz.ntmps37
  go_wp2_with fail
  refine KB.out.mono ?_
  rintro e w1 ⟨v1, rfl, own1, hb1'⟩
  obtain ⟨A, c, rfl, hr⟩ := Rd.of_own own1
  clear own1
  go_wp2
  go_loopw [6, 7] (fun o i wr => ∃ k : Nat, k ≤ r.length ∧ i = .int .i64 ((k : Int) - 1) ∧ wr.ownsRow w1.heap.size 5 1 o (outL r k).length ((outL r k).map bv) ∧ Below w.heap.size w wr ∧ Below w1.heap.size w1 wr) (fun _ i _ => (intOf i + 1).toNat)
  case atStart => exact ⟨r.length, Nat.le_refl _, rfl, by unfold outL; rw [List.drop_length]; exact own_nil _ _ _, hb1', Below.refl _ _⟩
  case round =>
    obtain ⟨k, hk, rfl, hown, hb, hbx⟩ := hrel
    by_cases hlt : 0 < k
    · obtain ⟨j, hkj⟩ : ∃ j, k = j + 1 := ⟨k - 1, by omega⟩
      have hj1 : (k : Int) - 1 = (j : Int) := by omega
      obtain ⟨b, off, rfl, hbB, hcell0⟩ := (hr.below hbx).at_ (k := j) (by omega)
      have hcell : wr.cell? ⟨b, off + j, none⟩ = some (.int .u8 ((r.getD j 0).toNat : Int)) := hcell0
      clear hcell0
      have hnext := outL_succ r (j := j) (by omega)
      rw [← hkj] at hnext
      have hys : (outL r k).length ≤ 32 := by simp [outL]; omega
      have hx := hbit j
      have Hv := Lib.hid (inv_val hx)
      generalize outL r k = ys at hown hnext hys
      generalize r.getD j 0 = x at hcell hx Hv hnext
      have hjr : (j : Int) < (r.length : Int) := by omega
      have Hn := Lib.hid hnext
      have Hkj := Lib.hid hkj
      clear hnext hkj
      rw [hj1]
      clear hj1
      go_wp2_with (at_builtin; refine wpl_append1 Tryz.underlying27 Tryz.info5 rfl (.tmp 18) (.tmp 24) rfl w1.heap.size _ ys rfl hown (1 - x) _ (by first | exact Hv.out.1 | exact Hv.out.2) rfl (by omega) hbx.size ?_; intro v' w2 hown2 hb2)
      go_roundw
      case rel => exact ⟨j, by have := Hkj.out; omega, rfl, by rw [Hn.out]; exact hown2, hb.trans (hb2.mono hb1'.size), hbx.trans hb2⟩
      case measure => simp [intOf]
    · have hk0 : k = 0 := by omega
      subst hk0
      go_wp2
      go_ret
      exact ⟨_, rfl, own_base hown hb1'.size, hb⟩

set_option maxHeartbeats 1600000 in
set_option maxRecDepth 100000 in
theorem refSixteen_any (w : World) (A : Option Addr) (c : Nat) (xs : List UInt8) (h : Rd w w.heap.size A c xs) (hl : xs.length ≤ 100000) :
    Calls Tryz.prog 35 #[.slice A xs.length c] w (ResV w .u64 (chkL xs)) := by
  have KL := all_any w A c xs h hl
  have hbl : Bit (allL xs) := Bit.of_mem (allL_bit xs)
  have hll := allL_len xs
  have href := ref_sixteen xs
  generalize chkL xs = q at href ⊢
  generalize allL xs = ls at KL hbl hll href
  have KLh := Lib.hid KL
  have Hll := Lib.hid hll
  have Href := Lib.hid href
  clear KL hll href
  go_enter Tryz.func35, Tryz.ntmps35
  go_wp2_with fail
  refine KLh.out.mono ?_
  rintro e w1 ⟨v1, rfl, own1, hb1⟩
  obtain ⟨A1, c1, rfl, r1⟩ := Rd.of_own own1
  clear own1
  go_wp2_with fail
  refine (long_any _).mono ?_
  rintro e w2 ⟨v2, rfl, own2, hb2⟩
  obtain ⟨A2, c2, rfl, r2⟩ := Rd.of_own own2
  clear own2
  have r1 := r1.belowTop hb2
  have hb2 := hb1.trans (hb2.mono hb1.size)
  clear hb1
  go_wp2_with fail
  refine (sent_any w2 A1 A2 c1 c2 ls longL r1 r2 hbl bit_long (by have := Hll.out; omega) (by decide) (by decide)).mono ?_
  rintro e w3 ⟨v3, rfl, own3, hb3⟩
  obtain ⟨A3, c3, rfl, r3⟩ := Rd.of_own own3
  have hb3 := hb2.trans (hb3.mono hb2.size)
  have KN := number_any w3 A3 c3 _ _ r3 (sentL_bit (behL_bit bit_long ls (bit_ones _))) (by rw [sentL_len, behL_len, List.length_replicate]; decide)
  have h5 : longL.length = 16 := rfl
  rw [h5] at KN own3 r3 ⊢
  rw [Href.out] at KN
  have KNh := Lib.hid KN
  clear KN own3 r3 r1 r2
  go_wp2_with fail
  refine KNh.out.mono ?_
  rintro e w4 ⟨rfl, rfl⟩
  go_wp2
  go_ret
  exact ⟨rfl, hb3⟩

end Go.Proofs.YtfblpakoibadoaaGreatDoor.Ck
