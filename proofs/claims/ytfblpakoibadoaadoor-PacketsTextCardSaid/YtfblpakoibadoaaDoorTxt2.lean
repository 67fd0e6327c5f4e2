/-
  Helper text: the words of every packet; no statement is proved here.
-/
import Derived.Test.YtfblpakoibadoaaDoorTxt
import Derived.Test.YtfblpakoibadoaaDoorCkAdd
import Derived.StillTailTactics
import Derived.Deep.RegionLaw
namespace Go.Proofs.YtfblpakoibadoaaDoor
open Go Go.RowKit

theorem below_grow' (w : World) (k : Nat) (os : Array Obj) : Below w.heap.size w (Sort.grow (w.drewN k) os) := by
  refine ⟨rfl, rfl, rfl, by simp [Sort.grow, World.drewN], fun j hj => ?_⟩
  show (w.heap ++ os)[j]? = w.heap[j]?
  exact Array.getElem?_append_left hj

theorem itoa_any (w : World) (hL : Laid w) (n : Nat) (hn : n ≤ 100000) : Calls Tryd.prog 32 #[.int .i64 (n : Int)] w (ResS w (Lib.decDigits n)) := by
  have := Tryd.strconv_Itoa (n : Int) (by omega) (by omega) w (hL.pow w (Below.refl _ _))
  have e : Lib.itoa (n : Int) = Lib.decDigits n := by
    unfold Lib.itoa
    rw [if_neg (by omega), Int.toNat_natCast]
  rw [e] at this
  refine this.mono ?_
  rintro e w' ⟨rfl, k, os, rfl⟩
  exact ⟨rfl, below_grow' w k os⟩
theorem digits_le : ∀ (k n : Nat), n < 10 ^ k → (Lib.decDigits n).length ≤ k + 1
  | 0, n, h => by
    have : n = 0 := by simpa using h
    subst this
    unfold Lib.decDigits
    simp
  | k + 1, n, h => by
    unfold Lib.decDigits
    split
    · simp
    · rw [List.length_append]
      have := digits_le k (n / 10) (by rw [Nat.pow_succ] at h; omega)
      simp only [List.length_cons, List.length_nil]
      omega
theorem app_str (a b : List UInt8) : (⟨a.toArray⟩ : ByteArray) ++ ⟨b.toArray⟩ = ⟨(a ++ b).toArray⟩ := by
  apply ByteArray.ext
  rw [ByteArray.data_append]
  simp

set_option maxHeartbeats 800000 in
set_option maxRecDepth 100000 in
theorem pair_any (w : World) (hL : Laid w) (a b : Nat) (ha : a < 256) (hb : b < 256) : Calls Tryd.prog 31 #[.int .u8 (a : Int), .int .u8 (b : Int)] w (ResS w (Lib.decDigits a ++ [46] ++ Lib.decDigits b)) := by
  have KA := Lib.hid (itoa_any w hL a (by omega))
  have KB := Lib.hid fun W hLW => itoa_any W hLW b (by omega)
  have la := digits_le 3 a (by omega)
  have lb := digits_le 3 b (by omega)
  generalize Lib.decDigits a = da at KA la ⊢
  generalize Lib.decDigits b = db at KB lb ⊢
  have hLh := Lib.hid hL
  have h1 := Lib.hid (app_str da [46])
  have h2 := Lib.hid (app_str (da ++ [46]) db)
  have s1 : (⟨da.toArray⟩ : ByteArray).size ≤ 4 := by show da.toArray.size ≤ 4; simpa using la
  have s2 : (⟨db.toArray⟩ : ByteArray).size ≤ 4 := by show db.toArray.size ≤ 4; simpa using lb
  clear hL
  go_enter Tryd.func31, Tryd.ntmps31
  go_wp2_with fail
  refine KA.out.mono ?_
  rintro e w1 ⟨rfl, b1⟩
  go_wp2_with fail
  refine (KB.out w1 (hLh.out.below b1)).mono ?_
  rintro e w2 ⟨rfl, b2⟩
  have hb2 := Lib.hid (b1.trans (b2.mono b1.size))
  clear b1 b2
  go_wp2
  go_ret
  rw [h1.out, h2.out]
  exact ⟨rfl, hb2.out⟩

/-- The digits of hexadecimal numbers. -/
def hexD (k : Nat) : UInt8 := [48, 49, 50, 51, 52, 53, 54, 55, 56, 57, 97, 98, 99, 100, 101, 102].getD k 0
def hexL (xs : List UInt8) : List UInt8 := xs.flatMap fun b => [hexD (b.toNat / 16), hexD (b.toNat % 16)]
theorem hexL_len (xs : List UInt8) : (hexL xs).length = 2 * xs.length := by
  induction xs with
  | nil => rfl
  | cons x xs ih =>
    show (_ :: _ :: hexL xs).length = _
    rw [List.length_cons, List.length_cons, ih, List.length_cons]; omega
theorem hexL_snoc (xs : List UInt8) (b : UInt8) : hexL (xs ++ [b]) = hexL xs ++ [hexD (b.toNat / 16), hexD (b.toNat % 16)] := by
  simp [hexL]
theorem index_hex (k : Nat) (h : k < 16) (W : World) : (Instr.index 9 (.string ⟨#[48, 49, 50, 51, 52, 53, 54, 55, 56, 57, 97, 98, 99, 100, 101, 102]⟩) (.int .u8 (k : Int))).run Tryd.prog W = .ok (bv (hexD k)) W := by
  rcases (by omega : k = 0 ∨ k = 1 ∨ k = 2 ∨ k = 3 ∨ k = 4 ∨ k = 5 ∨ k = 6 ∨ k = 7 ∨ k = 8 ∨ k = 9 ∨ k = 10 ∨ k = 11 ∨ k = 12 ∨ k = 13 ∨ k = 14 ∨ k = 15) with rfl | rfl | rfl | rfl | rfl | rfl | rfl | rfl | rfl | rfl | rfl | rfl | rfl | rfl | rfl | rfl <;> kernel_rfl

set_option maxHeartbeats 1600000 in
set_option maxRecDepth 100000 in
theorem hex_any (w : World) (A : Option Addr) (c : Nat) (xs : List UInt8) (h : Rd w w.heap.size A c xs) (hl : xs.length ≤ 1024) :
    Calls Tryd.prog 34 #[.slice A xs.length c] w (ResS w (hexL xs)) := by
  have hmk : ∀ W : World, (Instr.makeSlice 27 (.int .i64 0) (.int .i64 (2 * (xs.length : Int)))).run Tryd.prog W = .ok (.slice (some ⟨W.heap.size, 0, none⟩) 0 (2 * xs.length)) (W.alloc (.cells (madeCells #[.int .u8 0] (2 * xs.length)) 5)) := fun W => by
    obtain ⟨i0, hi, hz0, hz1, hz2⟩ := info_parts Ck.Tryd.info5
    have := run_make (P := Tryd.prog) W 27 5 i0 (.int .u8 0) Tryd.underlying27 hi hz0 .i64 .i64 0 (2 * (xs.length : Int)) (by omega) (by omega) (by rw [hz2]; omega) (by omega)
    rw [this, hz1, show (2 * (xs.length : Int)).toNat = 2 * xs.length from by omega]
    simp [Value.cells]
  go_enter Tryd.func34, Tryd.ntmps34
  go_wp2
  clear hmk
  go_loopw [3, 12] (fun o i wr => ∃ k : Nat, k ≤ xs.length ∧ i = .int .i64 k ∧ wr.ownsRow w.heap.size 5 1 o (hexL (xs.take k)).length ((hexL (xs.take k)).map bv) ∧ Below w.heap.size w wr) (fun _ i _ => xs.length - (intOf i).toNat)
  case atStart => exact ⟨0, Nat.zero_le _, rfl, World.ownsRow_made w _ _ (Nat.le_refl _) (by unfold maxLen; omega) (by simp [size_madeCells]), (Below.refl _ _).alloc (Nat.le_refl _) _⟩
  case round =>
    obtain ⟨k, hk, rfl, hown, hb⟩ := hrel
    by_cases hlt : k < xs.length
    · obtain ⟨b, off, rfl, hbB, hcell⟩ := (h.below hb).at_ hlt
      have hys : (hexL (xs.take k)).length ≤ 4096 := by rw [hexL_len, List.length_take]; omega
      have hnext := Lib.hid (show hexL (xs.take (k + 1)) = hexL (xs.take k) ++ [hexD ((xs.getD k 0).toNat / 16), hexD ((xs.getD k 0).toNat % 16)] by rw [take_snoc xs hlt, hexL_snoc])
      generalize xs.getD k 0 = x at hcell hnext
      have hx8 : x.toNat < 256 := x.toNat_lt
      have hband : bits .and .u8 (x.toNat : Int) 15 = ((x.toNat % 16 : Nat) : Int) := by
        have := Ck.band8 (a := x.toNat) (b := 15) x.toNat_lt (by decide)
        rw [show x.toNat &&& 15 = x.toNat % 16 from Nat.and_two_pow_sub_one_eq_mod _ 4] at this
        exact this
      have hdiv : (x.toNat : Int) / 16 = ((x.toNat / 16 : Nat) : Int) := by omega
      replace hcell : wr.cell? ⟨b, off + k, none⟩ = some (.int .u8 (x.toNat : Int)) := hcell
      have i1 := fun W => index_hex (x.toNat / 16) (by omega) W
      have i2 := fun W => index_hex (x.toNat % 16) (by omega) W
      generalize x.toNat = y at hcell hband hdiv hx8 hnext i1 i2
      generalize hexD (y / 16) = d1 at hnext i1
      generalize hexD (y % 16) = d2 at hnext i2
      generalize y / 16 = y1 at hdiv i1
      generalize y % 16 = y2 at hband i2
      generalize hexL (xs.take k) = zs at hown hys hnext
      have hro := (rd_built wr 5 [d1, d2] (by simp)).drew
      have hol := (hown.alloc (.cells ([d1, d2].map bv).toArray 5)).drew
      have hbl := Lib.hid (((Below.refl w.heap.size wr).alloc hb.size (.cells ([d1, d2].map bv).toArray 5)).drew)
      have hsz := hb.size
      go_wp2
      go_region_law (first | (refine step_appendN Tryd.underlying27 Ck.Tryd.info5 (by rfl) (.tmp 16) (.tmp 23) (by rfl) w.heap.size u3 zs (by rfl) hol _ 2 (some ⟨wr.heap.size, 0, none⟩) [d1, d2] hro (by rfl) (by simp; omega) (by simp; omega) ?_; intro v2 w2 hown2 hb2 hg2 hat2))
      all_goals
        go_wp2
        exact ⟨⟨k + 1, by omega, by go_num, by rw [hnext.out]; exact hown2, hb.trans (hbl.out.trans hb2)⟩, by simp [intOf]; omega⟩
    · obtain rfl : k = xs.length := by omega
      rw [List.take_length] at hown
      obtain ⟨A3, c3, rfl, hr3⟩ := Rd.of_own hown
      have s1 := hr3.str (P := Tryd.prog) (t := 27) (e := 5) Tryd.underlying27 Tryd.underlying5 (d := 9) Tryd.underlying9
      go_wp2
      go_ret
      exact ⟨rfl, hb⟩

/-- The words behind the name of a split. -/
def splitL (r : Rg) : List (List UInt8) := [stepL.getD r.comp.toNat [], Lib.decDigits r.hub ++ [46] ++ Lib.decDigits r.port, kindL.getD r.kind []] ++ (bif r.low then [[108, 111, 119]] else [])
/-- The words of a packet. -/
def wordsL (r : Rg) (xs : List UInt8) : List (List UInt8) :=
  [pidL.getD r.pid []] ++ (if r.pid = 1 ∨ r.pid = 9 ∨ r.pid = 13 then [Lib.decDigits r.addr ++ [46] ++ Lib.decDigits r.endp] else if r.pid = 5 then [Lib.decDigits r.frame] else if r.pid = 8 then splitL r else if xs = [] then [] else [hexL xs])

end Go.Proofs.YtfblpakoibadoaaDoor
