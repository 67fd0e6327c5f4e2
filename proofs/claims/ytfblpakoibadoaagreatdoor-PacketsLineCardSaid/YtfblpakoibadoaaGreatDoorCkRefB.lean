/-
  Helper text: contracts of the reference's Behind and Sent; no statement is proved here.
-/
import Derived.Test.YtfblpakoibadoaaGreatDoorCkRefA
namespace Go.Proofs.YtfblpakoibadoaaGreatDoor.Ck
open Go Go.RowKit

/-- The register while its bits move: those above k are new. -/
def midL (p r : List UInt8) (b : UInt8) (k : Nat) : List UInt8 := (List.range r.length).map fun j => if k < j then newL p r b j else r.getD j 0
theorem midL_len (p r : List UInt8) (b : UInt8) (k : Nat) : (midL p r b k).length = r.length := by simp [midL]
theorem midL_get (p r : List UInt8) (b : UInt8) (k : Nat) {j : Nat} (hj : j < r.length) : (midL p r b k).getD j 0 = if k < j then newL p r b j else r.getD j 0 := by
  simp [midL, List.getD, List.getElem?_range hj]
theorem midL_start (p r : List UInt8) (b : UInt8) : midL p r b (r.length - 1) = r := by
  apply List.ext_getElem
  · exact midL_len _ _ _ _
  · intro i h1 h2
    simp only [midL, List.getElem_map, List.getElem_range]
    rw [if_neg (by omega)]
    simp [List.getD, List.getElem?_eq_getElem h2]
theorem midL_set (p r : List UInt8) (b : UInt8) {k : Nat} (hk : k + 1 < r.length) : (midL p r b (k + 1)).set (k + 1) (newL p r b (k + 1)) = midL p r b k := by
  apply List.ext_getElem
  · rw [List.length_set, midL_len, midL_len]
  · intro i h1 h2
    rw [List.getElem_set]
    simp only [midL, List.getElem_map, List.getElem_range]
    by_cases e : k + 1 = i
    · subst e; rw [if_pos rfl, if_pos (by omega)]
    · rw [if_neg e]
      by_cases hl : k + 1 < i
      · rw [if_pos hl, if_pos (by omega)]
      · rw [if_neg hl, if_neg (by omega)]
theorem midL_end (p r : List UInt8) (b : UInt8) : (midL p r b 0).set 0 (newL p r b 0) = stepL p r b := by
  apply List.ext_getElem
  · rw [List.length_set, midL_len, stepL_len]
  · intro i h1 h2
    rw [List.getElem_set]
    simp only [midL, stepL, List.getElem_map, List.getElem_range]
    by_cases e : 0 = i
    · subst e; rw [if_pos rfl]
    · rw [if_neg e, if_pos (by omega)]

theorem behL_snoc (p r bits : List UInt8) (b : UInt8) : behL p (bits ++ [b]) r = stepL p (behL p bits r) b := by
  unfold behL
  rw [List.foldl_append]; rfl

set_option maxHeartbeats 4000000 in
set_option maxRecDepth 100000 in
theorem behind_any (w : World) (A1 A2 : Option Addr) (c1 c2 : Nat) (bits' p : List UInt8) (h1 : Rd w w.heap.size A1 c1 bits') (h2 : Rd w w.heap.size A2 c2 p) (hb1 : Bit bits') (hp : Bit p) (hl : bits'.length ≤ 800000) (hd0 : 0 < p.length) (hd : p.length ≤ 32) :
    Calls Tryz.prog 71 #[.slice A1 bits'.length c1, .slice A2 p.length c2] w (ResO w 5 (behL p bits' (List.replicate p.length 1))) := by
  have hmk := fun W : World => make_full (p.length : Int) W (by omega) (by omega)
  rw [Int.toNat_natCast] at hmk
  go_enter Tryz.func71, Tryz.ntmps71
  go_wp2
  clear hmk
  go_loopw [7] (fun i wr => ∃ k : Nat, k ≤ p.length ∧ i = .int .i64 k ∧ Row wr w.heap.size 5 (fillL p.length k (fun _ => 1)) ∧ Below w.heap.size w wr) (fun i _ => p.length - (intOf i).toNat)
  case atStart => exact ⟨0, Nat.zero_le _, rfl, by rw [fillL_zero]; exact Row.made w _ _, (Below.refl _ _).alloc (Nat.le_refl _) _⟩
  case round =>
    obtain ⟨k, hk, rfl, hrow, hb⟩ := hrel
    by_cases hlt : k < p.length
    · have hc2 := hrow.cell (i := k) (by rw [fillL_len]; exact hlt)
      have hf2 := hrow.frozen k
      have hset := hrow.set k (y := 1) (u := .int .u8 1) rfl
      rw [show (fillL p.length k fun _ => 1).set k 1 = fillL p.length (k + 1) fun _ => 1 from fillL_set _ _ _] at hset
      generalize (fillL p.length k fun _ => 1).getD k 0 = old at hc2
      have Hset := Lib.hid hset
      clear hset
      go_wp2
      go_roundw
      case rel => exact ⟨k + 1, by omega, by go_num, Hset.out, hb.setCell (Nat.le_refl _) _⟩
      case measure => simp [intOf]; omega
    · have hk9 : k = p.length := by omega
      subst hk9
      have hrow0 := hrow
      rw [fillL_full] at hrow0
      have hones : (List.range p.length).map (fun _ => (1 : UInt8)) = List.replicate p.length 1 := by
        apply List.ext_getElem <;> simp
      rw [hones] at hrow0
      clear hrow
      generalize hg : w.heap.size = g at hrow0 hb ⊢
      obtain ⟨dm, hdm⟩ : ∃ dm, p.length = dm + 1 := ⟨p.length - 1, by omega⟩
      go_wp2
      go_loopw [8, 9, 10] (fun i _ _ wr => ∃ k : Nat, k ≤ bits'.length ∧ i = .int .i64 k ∧ Row wr g 5 (behL p (bits'.take k) (List.replicate p.length 1)) ∧ Below g w wr) (fun i _ _ _ => bits'.length - (intOf i).toNat)
      case atStart => exact ⟨0, Nat.zero_le _, rfl, hrow0, hb⟩
      case round =>
        obtain ⟨k, hk, rfl, hrow, hb⟩ := hrel
        have hbit := behL_bit hp (bits'.take k) (bit_ones p.length)
        have hlen : (behL p (bits'.take k) (List.replicate p.length 1)).length = dm + 1 := by rw [behL_len, List.length_replicate, hdm]
        by_cases hlt : k < bits'.length
        · have hnext := behL_snoc p (List.replicate p.length 1) (bits'.take k) (bits'.getD k 0)
          rw [← take_snoc bits' hlt] at hnext
          generalize behL p (bits'.take k) (List.replicate p.length 1) = r at hrow hbit hlen hnext
          rw [hg] at h1 h2
          obtain ⟨b1, o1, rfl, hbB1, hcell1⟩ := (h1.below hb).at_ (k := k) hlt
          have hx := hb1 k
          generalize hbb : bits'.getD k 0 = bb at hcell1 hx hnext
          have ha := hbit dm
          have hS : sumL r bb = ((r.getD dm 0).toNat + bb.toNat) % 2 := by unfold sumL; rw [hlen]; rfl
          have cB : wr.cell? ⟨b1, o1 + k, none⟩ = some (.int .u8 (bb.toNat : Int)) := hcell1
          have cR : wr.cell? ⟨g, dm, none⟩ = some (.int .u8 ((r.getD dm 0).toNat : Int)) := hrow.cell (by omega)
          have hA : (r.getD dm 0).toNat ≤ 1 := ha
          generalize (r.getD dm 0).toNat = a at cR ha hS hA
          generalize hxx : bb.toNat = x at cB hx hS
          have s1 : IntKind.u8.wrap ((a : Int) + (x : Int)) = (a : Int) + (x : Int) := wraps_u8 _ (by omega) (by omega)
          have s2 : ((a : Int) + (x : Int)).tmod 2 = (sumL r bb : Int) := by rw [hS, Int.tmod_eq_emod_of_nonneg (by omega)]; omega
          have s3 : ((a : Int) + (x : Int)) % 256 % 2 = (sumL r bb : Int) := by rw [hS]; omega
          have hS2 := sumL_lt r bb
          have HS := Lib.hid hS
          clear hS
          have t1 : IntKind.i64.wrap ((p.length : Int) - 1) = (dm : Int) := by rw [IntWalk.i64_in _ (by omega)]; omega
          have t2 : (p.length : Int) - 1 = (dm : Int) := by omega
          have Hnext := Lib.hid hnext
          have Hlen := Lib.hid hlen
          have Hdm := Lib.hid hdm
          clear hcell1
          have Hxx := Lib.hid hxx
          have Hbb := Lib.hid hbb
          have hlen2 : (dm : Int) < (p.length : Int) := by omega
          clear hnext hlen hxx hbb hdm
          generalize hSS : sumL r bb = S at s2 s3 hS2
          have HSS := Lib.hid hSS
          clear hSS
          go_wp2
          go_region
          go_wp2
          clear s1 s2 s3 t1 cB cR
          go_loopw [10] (fun i wi => ∃ j : Nat, j ≤ dm ∧ i = .int .i64 j ∧ Row wi g 5 (midL p r bb j) ∧ Below g w wi) (fun i _ => (intOf i).toNat)
          case atStart => exact ⟨dm, Nat.le_refl _, by first | rfl | rw [t2], by have := midL_start p r bb; rw [show r.length - 1 = dm from by have := Hlen.out; omega] at this; rw [this]; exact hrow.drew, hb.drew⟩
          case round =>
            obtain ⟨j, hj, rfl, hrow2, hb2⟩ := hrel
            have hrl : r.length = dm + 1 := Hlen.out
            have hml := midL_len p r bb j
            rw [hrl] at hml
            obtain ⟨b2, o2, hA2, hbB2, hcell2⟩ := (h2.below hb2).cells hd0
            obtain rfl := hA2
            by_cases hj0 : 0 < j
            · obtain ⟨i, hji⟩ : ∃ i, j = i + 1 := ⟨j - 1, by omega⟩
              have e1 := hrow2.cell (i := i) (by omega)
              rw [midL_get p r bb j (by omega), if_neg (by omega)] at e1
              have c1 : wr.cell? ⟨g, i, none⟩ = some (.int .u8 ((r.getD i 0).toNat : Int)) := e1
              have e2 := hrow2.cell (i := j) (by omega)
              have c2' : wr.cell? ⟨g, j, none⟩ = some (.int .u8 (((midL p r bb j).getD j 0).toNat : Int)) := e2
              have e3 := hrow2.frozen j
              have e4 := hcell2 j (by have := Hdm.out; omega)
              have c4 : wr.cell? ⟨b2, o2 + j, none⟩ = some (.int .u8 ((p.getD j 0).toNat : Int)) := e4
              have hr1 := hbit i
              have hp1 := hp j
              have hnew : newL p r bb j = UInt8.ofNat (((r.getD i 0).toNat + S * (p.getD j 0).toNat) % 2) := by
                unfold newL; rw [if_neg (by omega), HSS.out, hji]; rfl
              have hset := hrow2.drew.set j (y := newL p r bb j) rfl
              have hms : (midL p r bb j).set j (newL p r bb j) = midL p r bb i := by rw [hji]; exact midL_set p r bb (by omega)
              rw [hms] at hset
              have hnv : bv (newL p r bb j) = .int .u8 ((((r.getD i 0).toNat + S * (p.getD j 0).toNat) % 2 : Nat) : Int) := by
                show Value.int .u8 _ = _
                rw [hnew, bit_ofNat (by omega)]
              rw [hnv] at hset
              clear e1 e2 e4 hnew hms hnv hcell2
              generalize (r.getD i 0).toNat = x1 at c1 hr1 hset
              generalize (p.getD j 0).toNat = y1 at c4 hp1 hset
              generalize ((midL p r bb j).getD j 0).toNat = x2 at c2'
              have hz1 : S * y1 ≤ 1 * 1 := Nat.mul_le_mul (by omega) hp1
              have m1 : (S : Int) * (y1 : Int) = ((S * y1 : Nat) : Int) := by push_cast; rfl
              generalize S * y1 = z at hz1 m1 hset
              have m2 : IntKind.u8.wrap (z : Int) = (z : Int) := wraps_u8 _ (by omega) (by omega)
              have m3 : IntKind.u8.wrap ((x1 : Int) + (z : Int)) = (x1 : Int) + (z : Int) := wraps_u8 _ (by omega) (by omega)
              have m4 : ((x1 : Int) + (z : Int)).tmod 2 = (((x1 + z) % 2 : Nat) : Int) := by rw [Int.tmod_eq_emod_of_nonneg (by omega)]; omega
              have m5 : ((x1 : Int) + (z : Int)) % 256 % 2 = (((x1 + z) % 2 : Nat) : Int) := by omega
              have m6 : ((x1 : Int) + (z : Int)) % 2 = (((x1 + z) % 2 : Nat) : Int) := by omega
              generalize (x1 + z) % 2 = nv at m4 m5 m6 hset
              have q1 : IntKind.i64.wrap ((j : Int) - 1) = (i : Int) := by rw [IntWalk.i64_in _ (by omega)]; omega
              have q2 : (j : Int) - 1 = (i : Int) := by omega
              have q3 : (i : Int) < (p.length : Int) := by omega
              have q4 : (j : Int) < (p.length : Int) := by omega
              have Hset := Lib.hid hset
              have Hji := Lib.hid hji
              clear hset hji hrl hml
              go_wp2
              go_region
              clear m1 m2 m3 m4 m5 m6 c1 c2' c4 e3
              go_wp2
              go_roundw
              case rel => exact ⟨i, by have := Hji.out; omega, by first | rfl | rw [q2], Hset.out, hb2.drew.setCell (Nat.le_refl _) _⟩
              case measure => simp [intOf]; have := Hji.out; omega
            · have hj9 : j = 0 := by omega
              subst hj9
              have e2 := hrow2.cell (i := 0) (by omega)
              have c2' : wr.cell? ⟨g, 0, none⟩ = some (.int .u8 (((midL p r bb 0).getD 0 0).toNat : Int)) := e2
              have e3 := hrow2.frozen 0
              have e4 := hcell2 0 hd0
              have c4 : wr.cell? ⟨b2, o2, none⟩ = some (.int .u8 ((p.getD 0 0).toNat : Int)) := e4
              have hp1 := hp 0
              have hnew : newL p r bb 0 = UInt8.ofNat (S * (p.getD 0 0).toNat) := by
                unfold newL; rw [if_pos rfl, HSS.out]
              have hset := hrow2.set 0 (y := newL p r bb 0) rfl
              rw [midL_end p r bb] at hset
              have hz1 : S * (p.getD 0 0).toNat ≤ 1 * 1 := Nat.mul_le_mul (by omega) hp1
              have hnv : bv (newL p r bb 0) = .int .u8 ((S * (p.getD 0 0).toNat : Nat) : Int) := by
                show Value.int .u8 _ = _
                rw [hnew, bit_ofNat (by omega)]
              rw [hnv] at hset
              clear e2 e4 hnew hnv hcell2
              generalize (p.getD 0 0).toNat = y1 at c4 hp1 hset hz1
              generalize ((midL p r bb 0).getD 0 0).toNat = x2 at c2'
              have m1 : (S : Int) * (y1 : Int) = ((S * y1 : Nat) : Int) := by push_cast; rfl
              generalize S * y1 = z at hz1 m1 hset
              have Hset := Lib.hid hset
              have Hml := Lib.hid hml
              have Hrl := Lib.hid hrl
              have hd1 : (0 : Int) < (p.length : Int) := by omega
              clear hset hml hrl
              go_wp2
              go_roundw
              case rel => exact ⟨k + 1, by omega, by go_num, by rw [Hnext.out]; exact Hset.out, hb2.setCell (Nat.le_refl _) _⟩
              case measure => simp [intOf]; omega
        · have hk9 : k = bits'.length := by omega
          subst hk9
          rw [List.take_length] at hrow
          have hlen2 : (behL p bits' (List.replicate p.length 1)).length = p.length := by rw [behL_len, List.length_replicate]
          have hown := row_own hrow (Nat.le_refl _) (by omega)
          rw [hlen2] at hown
          have Hown := Lib.hid hown
          have Hlen := Lib.hid hlen2
          clear hown hlen2 hlen
          go_wp2
          go_ret
          subst hg
          refine ⟨_, rfl, ?_, hb⟩
          rw [Hlen.out]
          exact Hown.out

end Go.Proofs.YtfblpakoibadoaaGreatDoor.Ck
