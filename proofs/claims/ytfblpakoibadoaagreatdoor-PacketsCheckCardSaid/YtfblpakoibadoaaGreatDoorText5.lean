/-
  Helper text, several in one; no statement is proved here.
-/
import Derived.Test.YtfblpakoibadoaaGreatDoorTxt
import Derived.Test.YtfblpakoibadoaaGreatDoorCkAdd
import Derived.StillTailTactics
import Derived.Deep.RegionLaw
import Derived.Test.YtfblpakoibadoaaGreatDoorFitP
namespace Go.Proofs.YtfblpakoibadoaaGreatDoor
open Go Go.RowKit

theorem below_grow' (w : World) (k : Nat) (os : Array Obj) : Below w.heap.size w (Sort.grow (w.drewN k) os) := by
  refine ⟨rfl, rfl, rfl, by simp [Sort.grow, World.drewN], fun j hj => ?_⟩
  show (w.heap ++ os)[j]? = w.heap[j]?
  exact Array.getElem?_append_left hj

theorem itoa_any (w : World) (hL : Laid w) (n : Nat) (hn : n ≤ 100000) : Calls Tryz.prog 65 #[.int .i64 (n : Int)] w (ResS w (Lib.decDigits n)) := by
  have := Tryz.strconv_Itoa (n : Int) (by omega) (by omega) w (hL.pow w (Below.refl _ _))
  have e : Lib.itoa (n : Int) = Lib.decDigits n := by
    unfold Lib.itoa
    rw [if_neg (by omega), Int.toNat_natCast]
  rw [e] at this
  refine this.mono ?_
  rintro e w' ⟨rfl, k, os, rfl⟩
  exact ⟨rfl, below_grow' w k os⟩
theorem digits_le : ∀ (k n : Nat), n < 10 ^ k → (Lib.decDigits n).length ≤ k + 1
  | 0, n, h => by
    have : n = 0 := by simpa using h
    subst this
    unfold Lib.decDigits
    simp
  | k + 1, n, h => by
    unfold Lib.decDigits
    split
    · simp
    · rw [List.length_append]
      have := digits_le k (n / 10) (by rw [Nat.pow_succ] at h; omega)
      simp only [List.length_cons, List.length_nil]
      omega
theorem app_str (a b : List UInt8) : (⟨a.toArray⟩ : ByteArray) ++ ⟨b.toArray⟩ = ⟨(a ++ b).toArray⟩ := by
  apply ByteArray.ext
  rw [ByteArray.data_append]
  simp

set_option maxHeartbeats 800000 in
set_option maxRecDepth 100000 in
theorem pair_any (w : World) (hL : Laid w) (a b : Nat) (ha : a < 256) (hb : b < 256) : Calls Tryz.prog 64 #[.int .u8 (a : Int), .int .u8 (b : Int)] w (ResS w (Lib.decDigits a ++ [46] ++ Lib.decDigits b)) := by
  have KA := Lib.hid (itoa_any w hL a (by omega))
  have KB := Lib.hid fun W hLW => itoa_any W hLW b (by omega)
  have la := digits_le 3 a (by omega)
  have lb := digits_le 3 b (by omega)
  generalize Lib.decDigits a = da at KA la ⊢
  generalize Lib.decDigits b = db at KB lb ⊢
  have hLh := Lib.hid hL
  have h1 := Lib.hid (app_str da [46])
  have h2 := Lib.hid (app_str (da ++ [46]) db)
  have s1 : (⟨da.toArray⟩ : ByteArray).size ≤ 4 := by show da.toArray.size ≤ 4; simpa using la
  have s2 : (⟨db.toArray⟩ : ByteArray).size ≤ 4 := by show db.toArray.size ≤ 4; simpa using lb
  clear hL
  go_enter Tryz.func64, Tryz.ntmps64
  go_wp2_with fail
  refine KA.out.mono ?_
  rintro e w1 ⟨rfl, b1⟩
  go_wp2_with fail
  refine (KB.out w1 (hLh.out.below b1)).mono ?_
  rintro e w2 ⟨rfl, b2⟩
  have hb2 := Lib.hid (b1.trans (b2.mono b1.size))
  clear b1 b2
  go_wp2
  go_ret
  rw [h1.out, h2.out]
  exact ⟨rfl, hb2.out⟩

/-- The digits of hexadecimal numbers. -/
def hexD (k : Nat) : UInt8 := [48, 49, 50, 51, 52, 53, 54, 55, 56, 57, 97, 98, 99, 100, 101, 102].getD k 0
def hexL (xs : List UInt8) : List UInt8 := xs.flatMap fun b => [hexD (b.toNat / 16), hexD (b.toNat % 16)]
theorem hexL_len (xs : List UInt8) : (hexL xs).length = 2 * xs.length := by
  induction xs with
  | nil => rfl
  | cons x xs ih =>
    show (_ :: _ :: hexL xs).length = _
    rw [List.length_cons, List.length_cons, ih, List.length_cons]; omega
theorem hexL_snoc (xs : List UInt8) (b : UInt8) : hexL (xs ++ [b]) = hexL xs ++ [hexD (b.toNat / 16), hexD (b.toNat % 16)] := by
  simp [hexL]
theorem index_hex (k : Nat) (h : k < 16) (W : World) : (Instr.index 9 (.string ⟨#[48, 49, 50, 51, 52, 53, 54, 55, 56, 57, 97, 98, 99, 100, 101, 102]⟩) (.int .u8 (k : Int))).run Tryz.prog W = .ok (bv (hexD k)) W := by
  rcases (by omega : k = 0 ∨ k = 1 ∨ k = 2 ∨ k = 3 ∨ k = 4 ∨ k = 5 ∨ k = 6 ∨ k = 7 ∨ k = 8 ∨ k = 9 ∨ k = 10 ∨ k = 11 ∨ k = 12 ∨ k = 13 ∨ k = 14 ∨ k = 15) with rfl | rfl | rfl | rfl | rfl | rfl | rfl | rfl | rfl | rfl | rfl | rfl | rfl | rfl | rfl | rfl <;> kernel_rfl

set_option maxHeartbeats 1600000 in
set_option maxRecDepth 100000 in
theorem hex_any (w : World) (A : Option Addr) (c : Nat) (xs : List UInt8) (h : Rd w w.heap.size A c xs) (hl : xs.length ≤ 1024) :
    Calls Tryz.prog 67 #[.slice A xs.length c] w (ResS w (hexL xs)) := by
  have hmk : ∀ W : World, (Instr.makeSlice 27 (.int .i64 0) (.int .i64 (2 * (xs.length : Int)))).run Tryz.prog W = .ok (.slice (some ⟨W.heap.size, 0, none⟩) 0 (2 * xs.length)) (W.alloc (.cells (madeCells #[.int .u8 0] (2 * xs.length)) 5)) := fun W => by
    obtain ⟨i0, hi, hz0, hz1, hz2⟩ := info_parts Ck.Tryz.info5
    have := run_make (P := Tryz.prog) W 27 5 i0 (.int .u8 0) Tryz.underlying27 hi hz0 .i64 .i64 0 (2 * (xs.length : Int)) (by omega) (by omega) (by rw [hz2]; omega) (by omega)
    rw [this, hz1, show (2 * (xs.length : Int)).toNat = 2 * xs.length from by omega]
    simp [Value.cells]
  go_enter Tryz.func67, Tryz.ntmps67
  go_wp2
  clear hmk
  go_loopw [3, 12] (fun o i wr => ∃ k : Nat, k ≤ xs.length ∧ i = .int .i64 k ∧ wr.ownsRow w.heap.size 5 1 o (hexL (xs.take k)).length ((hexL (xs.take k)).map bv) ∧ Below w.heap.size w wr) (fun _ i _ => xs.length - (intOf i).toNat)
  case atStart => exact ⟨0, Nat.zero_le _, rfl, World.ownsRow_made w _ _ (Nat.le_refl _) (by unfold maxLen; omega) (by simp [size_madeCells]), (Below.refl _ _).alloc (Nat.le_refl _) _⟩
  case round =>
    obtain ⟨k, hk, rfl, hown, hb⟩ := hrel
    by_cases hlt : k < xs.length
    · obtain ⟨b, off, rfl, hbB, hcell⟩ := (h.below hb).at_ hlt
      have hys : (hexL (xs.take k)).length ≤ 4096 := by rw [hexL_len, List.length_take]; omega
      have hnext := Lib.hid (show hexL (xs.take (k + 1)) = hexL (xs.take k) ++ [hexD ((xs.getD k 0).toNat / 16), hexD ((xs.getD k 0).toNat % 16)] by rw [take_snoc xs hlt, hexL_snoc])
      generalize xs.getD k 0 = x at hcell hnext
      have hx8 : x.toNat < 256 := x.toNat_lt
      have hband : bits .and .u8 (x.toNat : Int) 15 = ((x.toNat % 16 : Nat) : Int) := by
        have := Ck.band8 (a := x.toNat) (b := 15) x.toNat_lt (by decide)
        rw [show x.toNat &&& 15 = x.toNat % 16 from Nat.and_two_pow_sub_one_eq_mod _ 4] at this
        exact this
      have hdiv : (x.toNat : Int) / 16 = ((x.toNat / 16 : Nat) : Int) := by omega
      replace hcell : wr.cell? ⟨b, off + k, none⟩ = some (.int .u8 (x.toNat : Int)) := hcell
      have i1 := fun W => index_hex (x.toNat / 16) (by omega) W
      have i2 := fun W => index_hex (x.toNat % 16) (by omega) W
      generalize x.toNat = y at hcell hband hdiv hx8 hnext i1 i2
      generalize hexD (y / 16) = d1 at hnext i1
      generalize hexD (y % 16) = d2 at hnext i2
      generalize y / 16 = y1 at hdiv i1
      generalize y % 16 = y2 at hband i2
      generalize hexL (xs.take k) = zs at hown hys hnext
      have hro := (rd_built wr 5 [d1, d2] (by simp)).drew
      have hol := (hown.alloc (.cells ([d1, d2].map bv).toArray 5)).drew
      have hbl := Lib.hid (((Below.refl w.heap.size wr).alloc hb.size (.cells ([d1, d2].map bv).toArray 5)).drew)
      have hsz := hb.size
      go_wp2
      go_region_law (first | (refine step_appendN Tryz.underlying27 Ck.Tryz.info5 (by rfl) (.tmp 16) (.tmp 23) (by rfl) w.heap.size u3 zs (by rfl) hol _ 2 (some ⟨wr.heap.size, 0, none⟩) [d1, d2] hro (by rfl) (by simp; omega) (by simp; omega) ?_; intro v2 w2 hown2 hb2 hg2 hat2))
      all_goals
        go_wp2
        exact ⟨⟨k + 1, by omega, by go_num, by rw [hnext.out]; exact hown2, hb.trans (hbl.out.trans hb2)⟩, by simp [intOf]; omega⟩
    · obtain rfl : k = xs.length := by omega
      rw [List.take_length] at hown
      obtain ⟨A3, c3, rfl, hr3⟩ := Rd.of_own hown
      have s1 := hr3.str (P := Tryz.prog) (t := 27) (e := 5) Tryz.underlying27 Tryz.underlying5 (d := 9) Tryz.underlying9
      go_wp2
      go_ret
      exact ⟨rfl, hb⟩

/-- The words behind the name of a split. -/
def splitL (r : Rg) : List (List UInt8) := [stepL.getD r.comp.toNat [], Lib.decDigits r.hub ++ [46] ++ Lib.decDigits r.port, kindL.getD r.kind []] ++ (bif r.low then [[108, 111, 119]] else [])
/-- The words of a packet. -/
def wordsL (r : Rg) (xs : List UInt8) : List (List UInt8) :=
  [pidL.getD r.pid []] ++ (if r.pid = 1 ∨ r.pid = 9 ∨ r.pid = 13 then [Lib.decDigits r.addr ++ [46] ++ Lib.decDigits r.endp] else if r.pid = 5 then [Lib.decDigits r.frame] else if r.pid = 8 then splitL r else if xs = [] then [] else [hexL xs])

end Go.Proofs.YtfblpakoibadoaaGreatDoor

namespace Go.Proofs.YtfblpakoibadoaaGreatDoor
open Go Go.RowKit

theorem own_below' {w w' : World} {base t : Nat} {v : Value} {n : Nat} {vs : List Value} (h : w.ownsRow base t 1 v n vs) (hb : Below w.heap.size w w') : w'.ownsRow base t 1 v n vs := own_below h hb

set_option maxHeartbeats 1600000 in
set_option maxRecDepth 100000 in
theorem words_tok (w : World) (hL : Laid w) (r : Rg) (ok : r.Ok) (A : Option Addr) (n c : Nat) (hd : r.data = .slice A n c) (hp : r.pid = 1 ∨ r.pid = 9 ∨ r.pid = 13) (xs : List UInt8) :
    Calls Tryz.prog 33 #[.agg (pcells r)] w (ResW w (wordsL r xs)) := by
  have hw : wordsL r xs = [pidL.getD r.pid [], Lib.decDigits r.addr ++ [46] ++ Lib.decDigits r.endp] := by
    unfold wordsL; rw [if_pos hp]; rfl
  rw [hw]
  have a1 := ok.addr
  have a2 := ok.endp
  obtain ⟨p0, p1, p2, p3, p4, p5, p6, p7, p8, p9, p10⟩ := r
  simp only at hd hp a1 a2
  clear hw ok
  subst hd
  simp only [pcells]
  rcases hp with rfl | rfl | rfl
  · have hbW := (Below.refl w.heap.size w).alloc (Nat.le_refl _) (.cells #[.int .u8 1, .int .u8 (p1 : Int), .int .u8 (p2 : Int), .int .u16 (p3 : Int), .int .u8 (p4 : Int), .int .u8 (p5 : Int), .bool p6, .bool p7, .int .u8 (p8 : Int), .slice A n c] 29)
    have hb2 := Lib.hid (hbW.alloc hbW.size (.cells #[sv [111, 117, 116]] 9))
    have cN : (w.alloc (.cells #[.int .u8 1, .int .u8 (p1 : Int), .int .u8 (p2 : Int), .int .u16 (p3 : Int), .int .u8 (p4 : Int), .int .u8 (p5 : Int), .bool p6, .bool p7, .int .u8 (p8 : Int), .slice A n c] 29)).cell? ⟨0, 1, none⟩ = some (sv [111, 117, 116]) := (hL.below hbW).pid 1 (by decide)
    have hown : ((w.alloc (.cells #[.int .u8 1, .int .u8 (p1 : Int), .int .u8 (p2 : Int), .int .u16 (p3 : Int), .int .u8 (p4 : Int), .int .u8 (p5 : Int), .bool p6, .bool p7, .int .u8 (p8 : Int), .slice A n c] 29)).alloc (.cells #[sv [111, 117, 116]] 9)).ownsRow (w.heap.size + 1) 9 1 (.slice (some ⟨w.heap.size + 1, 0, none⟩) 1 1) ([[111, 117, 116]] : List (List UInt8)).length (([[111, 117, 116]] : List (List UInt8)).map sv) := by
      have h := ownS_built (w.alloc (.cells #[.int .u8 1, .int .u8 (p1 : Int), .int .u8 (p2 : Int), .int .u16 (p3 : Int), .int .u8 (p4 : Int), .int .u8 (p5 : Int), .bool p6, .bool p7, .int .u8 (p8 : Int), .slice A n c] 29)) 9 [[111, 117, 116]] (by decide)
      rw [show (w.alloc (.cells #[.int .u8 1, .int .u8 (p1 : Int), .int .u8 (p2 : Int), .int .u16 (p3 : Int), .int .u8 (p4 : Int), .int .u8 (p5 : Int), .bool p6, .bool p7, .int .u8 (p8 : Int), .slice A n c] 29)).heap.size = w.heap.size + 1 by simp] at h
      exact h
    have hownh := Lib.hid hown
    have hle := Lib.hid (show w.heap.size + 1 ≤ ((w.alloc (.cells #[.int .u8 1, .int .u8 (p1 : Int), .int .u8 (p2 : Int), .int .u16 (p3 : Int), .int .u8 (p4 : Int), .int .u8 (p5 : Int), .bool p6, .bool p7, .int .u8 (p8 : Int), .slice A n c] 29)).alloc (.cells #[sv [111, 117, 116]] 9)).heap.size by simp)
    have hL2 := Lib.hid (hL.below hb2.out)
    clear hown hbW hL
    go_enter Tryz.func33, Tryz.ntmps33
    go_wp2_with fail
    have hKC := pair_any ((w.alloc (.cells #[.int .u8 1, .int .u8 (p1 : Int), .int .u8 (p2 : Int), .int .u16 (p3 : Int), .int .u8 (p4 : Int), .int .u8 (p5 : Int), .bool p6, .bool p7, .int .u8 (p8 : Int), .slice A n c] 29)).alloc (.cells #[sv [111, 117, 116]] 9)) hL2.out p1 p2 a1 a2
    generalize ((w.alloc (.cells #[.int .u8 1, .int .u8 (p1 : Int), .int .u8 (p2 : Int), .int .u16 (p3 : Int), .int .u8 (p4 : Int), .int .u8 (p5 : Int), .bool p6, .bool p7, .int .u8 (p8 : Int), .slice A n c] 29)).alloc (.cells #[sv [111, 117, 116]] 9)) = W2 at hownh hle hb2 hL2 hKC ⊢
    refine hKC.mono ?_
    rintro e w3 ⟨rfl, b3⟩
    have hown3 := own_below' hownh.out b3
    have hle3 := Nat.le_trans hle.out b3.size
    have hb3 := Lib.hid (hb2.out.trans (b3.mono hb2.out.size))
    clear cN b3 hownh hle hb2 hKC
    obtain ⟨ds, hds⟩ : ∃ ds, Lib.decDigits p1 ++ [46] ++ Lib.decDigits p2 = ds := ⟨_, rfl⟩
    have hdh := Lib.hid hds
    rw [hds]
    clear hds
    go_wp2_with (at_builtin; refine wpl_appendS1 (w := w3) Tryz.underlying65 Tryz.info9s rfl (.tmp 15) (.tmp 21) rfl (w.heap.size + 1) (.slice (some ⟨w.heap.size + 1, 0, none⟩) 1 1) [[111, 117, 116]] rfl hown3 ds rfl (by decide) hle3 ?_; intro v' w' hown2 hbel)
    go_ret
    refine ⟨_, rfl, ?_, hb3.out.trans (hbel.mono (Nat.le_succ _))⟩
    rw [hdh.out]
    exact own_base' hown2 (Nat.le_succ _)
  · have hbW := (Below.refl w.heap.size w).alloc (Nat.le_refl _) (.cells #[.int .u8 9, .int .u8 (p1 : Int), .int .u8 (p2 : Int), .int .u16 (p3 : Int), .int .u8 (p4 : Int), .int .u8 (p5 : Int), .bool p6, .bool p7, .int .u8 (p8 : Int), .slice A n c] 29)
    have hb2 := Lib.hid (hbW.alloc hbW.size (.cells #[sv [105, 110]] 9))
    have cN : (w.alloc (.cells #[.int .u8 9, .int .u8 (p1 : Int), .int .u8 (p2 : Int), .int .u16 (p3 : Int), .int .u8 (p4 : Int), .int .u8 (p5 : Int), .bool p6, .bool p7, .int .u8 (p8 : Int), .slice A n c] 29)).cell? ⟨0, 9, none⟩ = some (sv [105, 110]) := (hL.below hbW).pid 9 (by decide)
    have hown : ((w.alloc (.cells #[.int .u8 9, .int .u8 (p1 : Int), .int .u8 (p2 : Int), .int .u16 (p3 : Int), .int .u8 (p4 : Int), .int .u8 (p5 : Int), .bool p6, .bool p7, .int .u8 (p8 : Int), .slice A n c] 29)).alloc (.cells #[sv [105, 110]] 9)).ownsRow (w.heap.size + 1) 9 1 (.slice (some ⟨w.heap.size + 1, 0, none⟩) 1 1) ([[105, 110]] : List (List UInt8)).length (([[105, 110]] : List (List UInt8)).map sv) := by
      have h := ownS_built (w.alloc (.cells #[.int .u8 9, .int .u8 (p1 : Int), .int .u8 (p2 : Int), .int .u16 (p3 : Int), .int .u8 (p4 : Int), .int .u8 (p5 : Int), .bool p6, .bool p7, .int .u8 (p8 : Int), .slice A n c] 29)) 9 [[105, 110]] (by decide)
      rw [show (w.alloc (.cells #[.int .u8 9, .int .u8 (p1 : Int), .int .u8 (p2 : Int), .int .u16 (p3 : Int), .int .u8 (p4 : Int), .int .u8 (p5 : Int), .bool p6, .bool p7, .int .u8 (p8 : Int), .slice A n c] 29)).heap.size = w.heap.size + 1 by simp] at h
      exact h
    have hownh := Lib.hid hown
    have hle := Lib.hid (show w.heap.size + 1 ≤ ((w.alloc (.cells #[.int .u8 9, .int .u8 (p1 : Int), .int .u8 (p2 : Int), .int .u16 (p3 : Int), .int .u8 (p4 : Int), .int .u8 (p5 : Int), .bool p6, .bool p7, .int .u8 (p8 : Int), .slice A n c] 29)).alloc (.cells #[sv [105, 110]] 9)).heap.size by simp)
    have hL2 := Lib.hid (hL.below hb2.out)
    clear hown hbW hL
    go_enter Tryz.func33, Tryz.ntmps33
    go_wp2_with fail
    have hKC := pair_any ((w.alloc (.cells #[.int .u8 9, .int .u8 (p1 : Int), .int .u8 (p2 : Int), .int .u16 (p3 : Int), .int .u8 (p4 : Int), .int .u8 (p5 : Int), .bool p6, .bool p7, .int .u8 (p8 : Int), .slice A n c] 29)).alloc (.cells #[sv [105, 110]] 9)) hL2.out p1 p2 a1 a2
    generalize ((w.alloc (.cells #[.int .u8 9, .int .u8 (p1 : Int), .int .u8 (p2 : Int), .int .u16 (p3 : Int), .int .u8 (p4 : Int), .int .u8 (p5 : Int), .bool p6, .bool p7, .int .u8 (p8 : Int), .slice A n c] 29)).alloc (.cells #[sv [105, 110]] 9)) = W2 at hownh hle hb2 hL2 hKC ⊢
    refine hKC.mono ?_
    rintro e w3 ⟨rfl, b3⟩
    have hown3 := own_below' hownh.out b3
    have hle3 := Nat.le_trans hle.out b3.size
    have hb3 := Lib.hid (hb2.out.trans (b3.mono hb2.out.size))
    clear cN b3 hownh hle hb2 hKC
    obtain ⟨ds, hds⟩ : ∃ ds, Lib.decDigits p1 ++ [46] ++ Lib.decDigits p2 = ds := ⟨_, rfl⟩
    have hdh := Lib.hid hds
    rw [hds]
    clear hds
    go_wp2_with (at_builtin; refine wpl_appendS1 (w := w3) Tryz.underlying65 Tryz.info9s rfl (.tmp 15) (.tmp 21) rfl (w.heap.size + 1) (.slice (some ⟨w.heap.size + 1, 0, none⟩) 1 1) [[105, 110]] rfl hown3 ds rfl (by decide) hle3 ?_; intro v' w' hown2 hbel)
    go_ret
    refine ⟨_, rfl, ?_, hb3.out.trans (hbel.mono (Nat.le_succ _))⟩
    rw [hdh.out]
    exact own_base' hown2 (Nat.le_succ _)
  · have hbW := (Below.refl w.heap.size w).alloc (Nat.le_refl _) (.cells #[.int .u8 13, .int .u8 (p1 : Int), .int .u8 (p2 : Int), .int .u16 (p3 : Int), .int .u8 (p4 : Int), .int .u8 (p5 : Int), .bool p6, .bool p7, .int .u8 (p8 : Int), .slice A n c] 29)
    have hb2 := Lib.hid (hbW.alloc hbW.size (.cells #[sv [115, 101, 116, 117, 112]] 9))
    have cN : (w.alloc (.cells #[.int .u8 13, .int .u8 (p1 : Int), .int .u8 (p2 : Int), .int .u16 (p3 : Int), .int .u8 (p4 : Int), .int .u8 (p5 : Int), .bool p6, .bool p7, .int .u8 (p8 : Int), .slice A n c] 29)).cell? ⟨0, 13, none⟩ = some (sv [115, 101, 116, 117, 112]) := (hL.below hbW).pid 13 (by decide)
    have hown : ((w.alloc (.cells #[.int .u8 13, .int .u8 (p1 : Int), .int .u8 (p2 : Int), .int .u16 (p3 : Int), .int .u8 (p4 : Int), .int .u8 (p5 : Int), .bool p6, .bool p7, .int .u8 (p8 : Int), .slice A n c] 29)).alloc (.cells #[sv [115, 101, 116, 117, 112]] 9)).ownsRow (w.heap.size + 1) 9 1 (.slice (some ⟨w.heap.size + 1, 0, none⟩) 1 1) ([[115, 101, 116, 117, 112]] : List (List UInt8)).length (([[115, 101, 116, 117, 112]] : List (List UInt8)).map sv) := by
      have h := ownS_built (w.alloc (.cells #[.int .u8 13, .int .u8 (p1 : Int), .int .u8 (p2 : Int), .int .u16 (p3 : Int), .int .u8 (p4 : Int), .int .u8 (p5 : Int), .bool p6, .bool p7, .int .u8 (p8 : Int), .slice A n c] 29)) 9 [[115, 101, 116, 117, 112]] (by decide)
      rw [show (w.alloc (.cells #[.int .u8 13, .int .u8 (p1 : Int), .int .u8 (p2 : Int), .int .u16 (p3 : Int), .int .u8 (p4 : Int), .int .u8 (p5 : Int), .bool p6, .bool p7, .int .u8 (p8 : Int), .slice A n c] 29)).heap.size = w.heap.size + 1 by simp] at h
      exact h
    have hownh := Lib.hid hown
    have hle := Lib.hid (show w.heap.size + 1 ≤ ((w.alloc (.cells #[.int .u8 13, .int .u8 (p1 : Int), .int .u8 (p2 : Int), .int .u16 (p3 : Int), .int .u8 (p4 : Int), .int .u8 (p5 : Int), .bool p6, .bool p7, .int .u8 (p8 : Int), .slice A n c] 29)).alloc (.cells #[sv [115, 101, 116, 117, 112]] 9)).heap.size by simp)
    have hL2 := Lib.hid (hL.below hb2.out)
    clear hown hbW hL
    go_enter Tryz.func33, Tryz.ntmps33
    go_wp2_with fail
    have hKC := pair_any ((w.alloc (.cells #[.int .u8 13, .int .u8 (p1 : Int), .int .u8 (p2 : Int), .int .u16 (p3 : Int), .int .u8 (p4 : Int), .int .u8 (p5 : Int), .bool p6, .bool p7, .int .u8 (p8 : Int), .slice A n c] 29)).alloc (.cells #[sv [115, 101, 116, 117, 112]] 9)) hL2.out p1 p2 a1 a2
    generalize ((w.alloc (.cells #[.int .u8 13, .int .u8 (p1 : Int), .int .u8 (p2 : Int), .int .u16 (p3 : Int), .int .u8 (p4 : Int), .int .u8 (p5 : Int), .bool p6, .bool p7, .int .u8 (p8 : Int), .slice A n c] 29)).alloc (.cells #[sv [115, 101, 116, 117, 112]] 9)) = W2 at hownh hle hb2 hL2 hKC ⊢
    refine hKC.mono ?_
    rintro e w3 ⟨rfl, b3⟩
    have hown3 := own_below' hownh.out b3
    have hle3 := Nat.le_trans hle.out b3.size
    have hb3 := Lib.hid (hb2.out.trans (b3.mono hb2.out.size))
    clear cN b3 hownh hle hb2 hKC
    obtain ⟨ds, hds⟩ : ∃ ds, Lib.decDigits p1 ++ [46] ++ Lib.decDigits p2 = ds := ⟨_, rfl⟩
    have hdh := Lib.hid hds
    rw [hds]
    clear hds
    go_wp2_with (at_builtin; refine wpl_appendS1 (w := w3) Tryz.underlying65 Tryz.info9s rfl (.tmp 15) (.tmp 21) rfl (w.heap.size + 1) (.slice (some ⟨w.heap.size + 1, 0, none⟩) 1 1) [[115, 101, 116, 117, 112]] rfl hown3 ds rfl (by decide) hle3 ?_; intro v' w' hown2 hbel)
    go_ret
    refine ⟨_, rfl, ?_, hb3.out.trans (hbel.mono (Nat.le_succ _))⟩
    rw [hdh.out]
    exact own_base' hown2 (Nat.le_succ _)

set_option maxHeartbeats 1600000 in
set_option maxRecDepth 100000 in
theorem words_frame (w : World) (hL : Laid w) (r : Rg) (ok : r.Ok) (A : Option Addr) (n c : Nat) (hd : r.data = .slice A n c) (hp : r.pid = 5) (xs : List UInt8) :
    Calls Tryz.prog 33 #[.agg (pcells r)] w (ResW w (wordsL r xs)) := by
  have hw : wordsL r xs = [pidL.getD r.pid [], Lib.decDigits r.frame] := by
    unfold wordsL; rw [if_neg (by omega), if_pos hp]; rfl
  rw [hw]
  have a3 := ok.frame
  obtain ⟨p0, p1, p2, p3, p4, p5, p6, p7, p8, p9, p10⟩ := r
  simp only at hd hp a3
  clear hw ok
  subst hd
  subst hp
  simp only [pcells]
  have hskip : True := trivial
  have hbW := (Below.refl w.heap.size w).alloc (Nat.le_refl _) (.cells #[.int .u8 5, .int .u8 (p1 : Int), .int .u8 (p2 : Int), .int .u16 (p3 : Int), .int .u8 (p4 : Int), .int .u8 (p5 : Int), .bool p6, .bool p7, .int .u8 (p8 : Int), .slice A n c] 29)
  have hb2 := Lib.hid (hbW.alloc hbW.size (.cells #[sv [115, 111, 102]] 9))
  have cN : (w.alloc (.cells #[.int .u8 5, .int .u8 (p1 : Int), .int .u8 (p2 : Int), .int .u16 (p3 : Int), .int .u8 (p4 : Int), .int .u8 (p5 : Int), .bool p6, .bool p7, .int .u8 (p8 : Int), .slice A n c] 29)).cell? ⟨0, 5, none⟩ = some (sv [115, 111, 102]) := (hL.below hbW).pid 5 (by decide)
  have hown : ((w.alloc (.cells #[.int .u8 5, .int .u8 (p1 : Int), .int .u8 (p2 : Int), .int .u16 (p3 : Int), .int .u8 (p4 : Int), .int .u8 (p5 : Int), .bool p6, .bool p7, .int .u8 (p8 : Int), .slice A n c] 29)).alloc (.cells #[sv [115, 111, 102]] 9)).ownsRow (w.heap.size + 1) 9 1 (.slice (some ⟨w.heap.size + 1, 0, none⟩) 1 1) ([[115, 111, 102]] : List (List UInt8)).length (([[115, 111, 102]] : List (List UInt8)).map sv) := by
    have h := ownS_built (w.alloc (.cells #[.int .u8 5, .int .u8 (p1 : Int), .int .u8 (p2 : Int), .int .u16 (p3 : Int), .int .u8 (p4 : Int), .int .u8 (p5 : Int), .bool p6, .bool p7, .int .u8 (p8 : Int), .slice A n c] 29)) 9 [[115, 111, 102]] (by decide)
    rw [show (w.alloc (.cells #[.int .u8 5, .int .u8 (p1 : Int), .int .u8 (p2 : Int), .int .u16 (p3 : Int), .int .u8 (p4 : Int), .int .u8 (p5 : Int), .bool p6, .bool p7, .int .u8 (p8 : Int), .slice A n c] 29)).heap.size = w.heap.size + 1 by simp] at h
    exact h
  have hownh := Lib.hid hown
  have hle := Lib.hid (show w.heap.size + 1 ≤ ((w.alloc (.cells #[.int .u8 5, .int .u8 (p1 : Int), .int .u8 (p2 : Int), .int .u16 (p3 : Int), .int .u8 (p4 : Int), .int .u8 (p5 : Int), .bool p6, .bool p7, .int .u8 (p8 : Int), .slice A n c] 29)).alloc (.cells #[sv [115, 111, 102]] 9)).heap.size by simp)
  have hL2 := Lib.hid (hL.below hb2.out)
  clear hown hbW hL
  go_enter Tryz.func33, Tryz.ntmps33
  go_wp2_with fail
  have hKC := itoa_any ((w.alloc (.cells #[.int .u8 5, .int .u8 (p1 : Int), .int .u8 (p2 : Int), .int .u16 (p3 : Int), .int .u8 (p4 : Int), .int .u8 (p5 : Int), .bool p6, .bool p7, .int .u8 (p8 : Int), .slice A n c] 29)).alloc (.cells #[sv [115, 111, 102]] 9)) hL2.out p3 (by omega)
  generalize ((w.alloc (.cells #[.int .u8 5, .int .u8 (p1 : Int), .int .u8 (p2 : Int), .int .u16 (p3 : Int), .int .u8 (p4 : Int), .int .u8 (p5 : Int), .bool p6, .bool p7, .int .u8 (p8 : Int), .slice A n c] 29)).alloc (.cells #[sv [115, 111, 102]] 9)) = W2 at hownh hle hb2 hL2 hKC ⊢
  refine hKC.mono ?_
  rintro e w3 ⟨rfl, b3⟩
  have hown3 := own_below' hownh.out b3
  have hle3 := Nat.le_trans hle.out b3.size
  have hb3 := Lib.hid (hb2.out.trans (b3.mono hb2.out.size))
  clear cN b3 hownh hle hb2 hKC
  obtain ⟨ds, hds⟩ : ∃ ds, Lib.decDigits p3 = ds := ⟨_, rfl⟩
  have hdh := Lib.hid hds
  rw [hds]
  clear hds
  go_wp2_with (at_builtin; refine wpl_appendS1 (w := w3) Tryz.underlying65 Tryz.info9s rfl (.tmp 25) (.tmp 30) rfl (w.heap.size + 1) (.slice (some ⟨w.heap.size + 1, 0, none⟩) 1 1) [[115, 111, 102]] rfl hown3 ds rfl (by decide) hle3 ?_; intro v' w' hown2 hbel)
  go_ret
  refine ⟨_, rfl, ?_, hb3.out.trans (hbel.mono (Nat.le_succ _))⟩
  rw [hdh.out]
  exact own_base' hown2 (Nat.le_succ _)

end Go.Proofs.YtfblpakoibadoaaGreatDoor

namespace Go.Proofs.YtfblpakoibadoaaGreatDoor
open Go Go.RowKit

set_option maxHeartbeats 1600000 in
set_option maxRecDepth 100000 in
theorem words_bare (w : World) (hL : Laid w) (r : Rg) (A : Option Addr) (c : Nat) (hd : r.data = .slice A 0 c) (hp : r.pid = 2 ∨ r.pid = 6 ∨ r.pid = 10 ∨ r.pid = 14 ∨ r.pid = 3 ∨ r.pid = 11) :
    Calls Tryz.prog 33 #[.agg (pcells r)] w (ResW w (wordsL r [])) := by
  have hw : wordsL r [] = [pidL.getD r.pid []] := by
    unfold wordsL; rw [if_neg (by omega), if_neg (by omega), if_neg (by omega), if_pos rfl]; rfl
  rw [hw]
  obtain ⟨p0, p1, p2, p3, p4, p5, p6, p7, p8, p9, p10⟩ := r
  simp only at hd hp
  clear hw
  subst hd
  simp only [pcells]
  rcases hp with rfl | rfl | rfl | rfl | rfl | rfl
  · have hbW := (Below.refl w.heap.size w).alloc (Nat.le_refl _) (.cells #[.int .u8 2, .int .u8 (p1 : Int), .int .u8 (p2 : Int), .int .u16 (p3 : Int), .int .u8 (p4 : Int), .int .u8 (p5 : Int), .bool p6, .bool p7, .int .u8 (p8 : Int), .slice A 0 c] 29)
    have hb2 := Lib.hid (hbW.alloc hbW.size (.cells #[sv [97, 99, 107]] 9))
    have cN : (w.alloc (.cells #[.int .u8 2, .int .u8 (p1 : Int), .int .u8 (p2 : Int), .int .u16 (p3 : Int), .int .u8 (p4 : Int), .int .u8 (p5 : Int), .bool p6, .bool p7, .int .u8 (p8 : Int), .slice A 0 c] 29)).cell? ⟨0, 2, none⟩ = some (sv [97, 99, 107]) := (hL.below hbW).pid 2 (by decide)
    have hown : ((w.alloc (.cells #[.int .u8 2, .int .u8 (p1 : Int), .int .u8 (p2 : Int), .int .u16 (p3 : Int), .int .u8 (p4 : Int), .int .u8 (p5 : Int), .bool p6, .bool p7, .int .u8 (p8 : Int), .slice A 0 c] 29)).alloc (.cells #[sv [97, 99, 107]] 9)).ownsRow (w.heap.size + 1) 9 1 (.slice (some ⟨w.heap.size + 1, 0, none⟩) 1 1) ([[97, 99, 107]] : List (List UInt8)).length (([[97, 99, 107]] : List (List UInt8)).map sv) := by
      have h := ownS_built (w.alloc (.cells #[.int .u8 2, .int .u8 (p1 : Int), .int .u8 (p2 : Int), .int .u16 (p3 : Int), .int .u8 (p4 : Int), .int .u8 (p5 : Int), .bool p6, .bool p7, .int .u8 (p8 : Int), .slice A 0 c] 29)) 9 [[97, 99, 107]] (by decide)
      rw [show (w.alloc (.cells #[.int .u8 2, .int .u8 (p1 : Int), .int .u8 (p2 : Int), .int .u16 (p3 : Int), .int .u8 (p4 : Int), .int .u8 (p5 : Int), .bool p6, .bool p7, .int .u8 (p8 : Int), .slice A 0 c] 29)).heap.size = w.heap.size + 1 by simp] at h
      exact h
    have hownh := Lib.hid hown
    have hle := Lib.hid (show w.heap.size + 1 ≤ ((w.alloc (.cells #[.int .u8 2, .int .u8 (p1 : Int), .int .u8 (p2 : Int), .int .u16 (p3 : Int), .int .u8 (p4 : Int), .int .u8 (p5 : Int), .bool p6, .bool p7, .int .u8 (p8 : Int), .slice A 0 c] 29)).alloc (.cells #[sv [97, 99, 107]] 9)).heap.size by simp)
    clear hown hbW hL
    go_enter Tryz.func33, Tryz.ntmps33
    go_wp2
    go_ret
    exact ⟨_, rfl, own_base' hownh.out (Nat.le_succ _), hb2.out⟩
  · have hbW := (Below.refl w.heap.size w).alloc (Nat.le_refl _) (.cells #[.int .u8 6, .int .u8 (p1 : Int), .int .u8 (p2 : Int), .int .u16 (p3 : Int), .int .u8 (p4 : Int), .int .u8 (p5 : Int), .bool p6, .bool p7, .int .u8 (p8 : Int), .slice A 0 c] 29)
    have hb2 := Lib.hid (hbW.alloc hbW.size (.cells #[sv [110, 121, 101, 116]] 9))
    have cN : (w.alloc (.cells #[.int .u8 6, .int .u8 (p1 : Int), .int .u8 (p2 : Int), .int .u16 (p3 : Int), .int .u8 (p4 : Int), .int .u8 (p5 : Int), .bool p6, .bool p7, .int .u8 (p8 : Int), .slice A 0 c] 29)).cell? ⟨0, 6, none⟩ = some (sv [110, 121, 101, 116]) := (hL.below hbW).pid 6 (by decide)
    have hown : ((w.alloc (.cells #[.int .u8 6, .int .u8 (p1 : Int), .int .u8 (p2 : Int), .int .u16 (p3 : Int), .int .u8 (p4 : Int), .int .u8 (p5 : Int), .bool p6, .bool p7, .int .u8 (p8 : Int), .slice A 0 c] 29)).alloc (.cells #[sv [110, 121, 101, 116]] 9)).ownsRow (w.heap.size + 1) 9 1 (.slice (some ⟨w.heap.size + 1, 0, none⟩) 1 1) ([[110, 121, 101, 116]] : List (List UInt8)).length (([[110, 121, 101, 116]] : List (List UInt8)).map sv) := by
      have h := ownS_built (w.alloc (.cells #[.int .u8 6, .int .u8 (p1 : Int), .int .u8 (p2 : Int), .int .u16 (p3 : Int), .int .u8 (p4 : Int), .int .u8 (p5 : Int), .bool p6, .bool p7, .int .u8 (p8 : Int), .slice A 0 c] 29)) 9 [[110, 121, 101, 116]] (by decide)
      rw [show (w.alloc (.cells #[.int .u8 6, .int .u8 (p1 : Int), .int .u8 (p2 : Int), .int .u16 (p3 : Int), .int .u8 (p4 : Int), .int .u8 (p5 : Int), .bool p6, .bool p7, .int .u8 (p8 : Int), .slice A 0 c] 29)).heap.size = w.heap.size + 1 by simp] at h
      exact h
    have hownh := Lib.hid hown
    have hle := Lib.hid (show w.heap.size + 1 ≤ ((w.alloc (.cells #[.int .u8 6, .int .u8 (p1 : Int), .int .u8 (p2 : Int), .int .u16 (p3 : Int), .int .u8 (p4 : Int), .int .u8 (p5 : Int), .bool p6, .bool p7, .int .u8 (p8 : Int), .slice A 0 c] 29)).alloc (.cells #[sv [110, 121, 101, 116]] 9)).heap.size by simp)
    clear hown hbW hL
    go_enter Tryz.func33, Tryz.ntmps33
    go_wp2
    go_ret
    exact ⟨_, rfl, own_base' hownh.out (Nat.le_succ _), hb2.out⟩
  · have hbW := (Below.refl w.heap.size w).alloc (Nat.le_refl _) (.cells #[.int .u8 10, .int .u8 (p1 : Int), .int .u8 (p2 : Int), .int .u16 (p3 : Int), .int .u8 (p4 : Int), .int .u8 (p5 : Int), .bool p6, .bool p7, .int .u8 (p8 : Int), .slice A 0 c] 29)
    have hb2 := Lib.hid (hbW.alloc hbW.size (.cells #[sv [110, 97, 107]] 9))
    have cN : (w.alloc (.cells #[.int .u8 10, .int .u8 (p1 : Int), .int .u8 (p2 : Int), .int .u16 (p3 : Int), .int .u8 (p4 : Int), .int .u8 (p5 : Int), .bool p6, .bool p7, .int .u8 (p8 : Int), .slice A 0 c] 29)).cell? ⟨0, 10, none⟩ = some (sv [110, 97, 107]) := (hL.below hbW).pid 10 (by decide)
    have hown : ((w.alloc (.cells #[.int .u8 10, .int .u8 (p1 : Int), .int .u8 (p2 : Int), .int .u16 (p3 : Int), .int .u8 (p4 : Int), .int .u8 (p5 : Int), .bool p6, .bool p7, .int .u8 (p8 : Int), .slice A 0 c] 29)).alloc (.cells #[sv [110, 97, 107]] 9)).ownsRow (w.heap.size + 1) 9 1 (.slice (some ⟨w.heap.size + 1, 0, none⟩) 1 1) ([[110, 97, 107]] : List (List UInt8)).length (([[110, 97, 107]] : List (List UInt8)).map sv) := by
      have h := ownS_built (w.alloc (.cells #[.int .u8 10, .int .u8 (p1 : Int), .int .u8 (p2 : Int), .int .u16 (p3 : Int), .int .u8 (p4 : Int), .int .u8 (p5 : Int), .bool p6, .bool p7, .int .u8 (p8 : Int), .slice A 0 c] 29)) 9 [[110, 97, 107]] (by decide)
      rw [show (w.alloc (.cells #[.int .u8 10, .int .u8 (p1 : Int), .int .u8 (p2 : Int), .int .u16 (p3 : Int), .int .u8 (p4 : Int), .int .u8 (p5 : Int), .bool p6, .bool p7, .int .u8 (p8 : Int), .slice A 0 c] 29)).heap.size = w.heap.size + 1 by simp] at h
      exact h
    have hownh := Lib.hid hown
    have hle := Lib.hid (show w.heap.size + 1 ≤ ((w.alloc (.cells #[.int .u8 10, .int .u8 (p1 : Int), .int .u8 (p2 : Int), .int .u16 (p3 : Int), .int .u8 (p4 : Int), .int .u8 (p5 : Int), .bool p6, .bool p7, .int .u8 (p8 : Int), .slice A 0 c] 29)).alloc (.cells #[sv [110, 97, 107]] 9)).heap.size by simp)
    clear hown hbW hL
    go_enter Tryz.func33, Tryz.ntmps33
    go_wp2
    go_ret
    exact ⟨_, rfl, own_base' hownh.out (Nat.le_succ _), hb2.out⟩
  · have hbW := (Below.refl w.heap.size w).alloc (Nat.le_refl _) (.cells #[.int .u8 14, .int .u8 (p1 : Int), .int .u8 (p2 : Int), .int .u16 (p3 : Int), .int .u8 (p4 : Int), .int .u8 (p5 : Int), .bool p6, .bool p7, .int .u8 (p8 : Int), .slice A 0 c] 29)
    have hb2 := Lib.hid (hbW.alloc hbW.size (.cells #[sv [115, 116, 97, 108, 108]] 9))
    have cN : (w.alloc (.cells #[.int .u8 14, .int .u8 (p1 : Int), .int .u8 (p2 : Int), .int .u16 (p3 : Int), .int .u8 (p4 : Int), .int .u8 (p5 : Int), .bool p6, .bool p7, .int .u8 (p8 : Int), .slice A 0 c] 29)).cell? ⟨0, 14, none⟩ = some (sv [115, 116, 97, 108, 108]) := (hL.below hbW).pid 14 (by decide)
    have hown : ((w.alloc (.cells #[.int .u8 14, .int .u8 (p1 : Int), .int .u8 (p2 : Int), .int .u16 (p3 : Int), .int .u8 (p4 : Int), .int .u8 (p5 : Int), .bool p6, .bool p7, .int .u8 (p8 : Int), .slice A 0 c] 29)).alloc (.cells #[sv [115, 116, 97, 108, 108]] 9)).ownsRow (w.heap.size + 1) 9 1 (.slice (some ⟨w.heap.size + 1, 0, none⟩) 1 1) ([[115, 116, 97, 108, 108]] : List (List UInt8)).length (([[115, 116, 97, 108, 108]] : List (List UInt8)).map sv) := by
      have h := ownS_built (w.alloc (.cells #[.int .u8 14, .int .u8 (p1 : Int), .int .u8 (p2 : Int), .int .u16 (p3 : Int), .int .u8 (p4 : Int), .int .u8 (p5 : Int), .bool p6, .bool p7, .int .u8 (p8 : Int), .slice A 0 c] 29)) 9 [[115, 116, 97, 108, 108]] (by decide)
      rw [show (w.alloc (.cells #[.int .u8 14, .int .u8 (p1 : Int), .int .u8 (p2 : Int), .int .u16 (p3 : Int), .int .u8 (p4 : Int), .int .u8 (p5 : Int), .bool p6, .bool p7, .int .u8 (p8 : Int), .slice A 0 c] 29)).heap.size = w.heap.size + 1 by simp] at h
      exact h
    have hownh := Lib.hid hown
    have hle := Lib.hid (show w.heap.size + 1 ≤ ((w.alloc (.cells #[.int .u8 14, .int .u8 (p1 : Int), .int .u8 (p2 : Int), .int .u16 (p3 : Int), .int .u8 (p4 : Int), .int .u8 (p5 : Int), .bool p6, .bool p7, .int .u8 (p8 : Int), .slice A 0 c] 29)).alloc (.cells #[sv [115, 116, 97, 108, 108]] 9)).heap.size by simp)
    clear hown hbW hL
    go_enter Tryz.func33, Tryz.ntmps33
    go_wp2
    go_ret
    exact ⟨_, rfl, own_base' hownh.out (Nat.le_succ _), hb2.out⟩
  · have hbW := (Below.refl w.heap.size w).alloc (Nat.le_refl _) (.cells #[.int .u8 3, .int .u8 (p1 : Int), .int .u8 (p2 : Int), .int .u16 (p3 : Int), .int .u8 (p4 : Int), .int .u8 (p5 : Int), .bool p6, .bool p7, .int .u8 (p8 : Int), .slice A 0 c] 29)
    have hb2 := Lib.hid (hbW.alloc hbW.size (.cells #[sv [100, 97, 116, 97, 48]] 9))
    have cN : (w.alloc (.cells #[.int .u8 3, .int .u8 (p1 : Int), .int .u8 (p2 : Int), .int .u16 (p3 : Int), .int .u8 (p4 : Int), .int .u8 (p5 : Int), .bool p6, .bool p7, .int .u8 (p8 : Int), .slice A 0 c] 29)).cell? ⟨0, 3, none⟩ = some (sv [100, 97, 116, 97, 48]) := (hL.below hbW).pid 3 (by decide)
    have hown : ((w.alloc (.cells #[.int .u8 3, .int .u8 (p1 : Int), .int .u8 (p2 : Int), .int .u16 (p3 : Int), .int .u8 (p4 : Int), .int .u8 (p5 : Int), .bool p6, .bool p7, .int .u8 (p8 : Int), .slice A 0 c] 29)).alloc (.cells #[sv [100, 97, 116, 97, 48]] 9)).ownsRow (w.heap.size + 1) 9 1 (.slice (some ⟨w.heap.size + 1, 0, none⟩) 1 1) ([[100, 97, 116, 97, 48]] : List (List UInt8)).length (([[100, 97, 116, 97, 48]] : List (List UInt8)).map sv) := by
      have h := ownS_built (w.alloc (.cells #[.int .u8 3, .int .u8 (p1 : Int), .int .u8 (p2 : Int), .int .u16 (p3 : Int), .int .u8 (p4 : Int), .int .u8 (p5 : Int), .bool p6, .bool p7, .int .u8 (p8 : Int), .slice A 0 c] 29)) 9 [[100, 97, 116, 97, 48]] (by decide)
      rw [show (w.alloc (.cells #[.int .u8 3, .int .u8 (p1 : Int), .int .u8 (p2 : Int), .int .u16 (p3 : Int), .int .u8 (p4 : Int), .int .u8 (p5 : Int), .bool p6, .bool p7, .int .u8 (p8 : Int), .slice A 0 c] 29)).heap.size = w.heap.size + 1 by simp] at h
      exact h
    have hownh := Lib.hid hown
    have hle := Lib.hid (show w.heap.size + 1 ≤ ((w.alloc (.cells #[.int .u8 3, .int .u8 (p1 : Int), .int .u8 (p2 : Int), .int .u16 (p3 : Int), .int .u8 (p4 : Int), .int .u8 (p5 : Int), .bool p6, .bool p7, .int .u8 (p8 : Int), .slice A 0 c] 29)).alloc (.cells #[sv [100, 97, 116, 97, 48]] 9)).heap.size by simp)
    clear hown hbW hL
    go_enter Tryz.func33, Tryz.ntmps33
    go_wp2
    go_ret
    exact ⟨_, rfl, own_base' hownh.out (Nat.le_succ _), hb2.out⟩
  · have hbW := (Below.refl w.heap.size w).alloc (Nat.le_refl _) (.cells #[.int .u8 11, .int .u8 (p1 : Int), .int .u8 (p2 : Int), .int .u16 (p3 : Int), .int .u8 (p4 : Int), .int .u8 (p5 : Int), .bool p6, .bool p7, .int .u8 (p8 : Int), .slice A 0 c] 29)
    have hb2 := Lib.hid (hbW.alloc hbW.size (.cells #[sv [100, 97, 116, 97, 49]] 9))
    have cN : (w.alloc (.cells #[.int .u8 11, .int .u8 (p1 : Int), .int .u8 (p2 : Int), .int .u16 (p3 : Int), .int .u8 (p4 : Int), .int .u8 (p5 : Int), .bool p6, .bool p7, .int .u8 (p8 : Int), .slice A 0 c] 29)).cell? ⟨0, 11, none⟩ = some (sv [100, 97, 116, 97, 49]) := (hL.below hbW).pid 11 (by decide)
    have hown : ((w.alloc (.cells #[.int .u8 11, .int .u8 (p1 : Int), .int .u8 (p2 : Int), .int .u16 (p3 : Int), .int .u8 (p4 : Int), .int .u8 (p5 : Int), .bool p6, .bool p7, .int .u8 (p8 : Int), .slice A 0 c] 29)).alloc (.cells #[sv [100, 97, 116, 97, 49]] 9)).ownsRow (w.heap.size + 1) 9 1 (.slice (some ⟨w.heap.size + 1, 0, none⟩) 1 1) ([[100, 97, 116, 97, 49]] : List (List UInt8)).length (([[100, 97, 116, 97, 49]] : List (List UInt8)).map sv) := by
      have h := ownS_built (w.alloc (.cells #[.int .u8 11, .int .u8 (p1 : Int), .int .u8 (p2 : Int), .int .u16 (p3 : Int), .int .u8 (p4 : Int), .int .u8 (p5 : Int), .bool p6, .bool p7, .int .u8 (p8 : Int), .slice A 0 c] 29)) 9 [[100, 97, 116, 97, 49]] (by decide)
      rw [show (w.alloc (.cells #[.int .u8 11, .int .u8 (p1 : Int), .int .u8 (p2 : Int), .int .u16 (p3 : Int), .int .u8 (p4 : Int), .int .u8 (p5 : Int), .bool p6, .bool p7, .int .u8 (p8 : Int), .slice A 0 c] 29)).heap.size = w.heap.size + 1 by simp] at h
      exact h
    have hownh := Lib.hid hown
    have hle := Lib.hid (show w.heap.size + 1 ≤ ((w.alloc (.cells #[.int .u8 11, .int .u8 (p1 : Int), .int .u8 (p2 : Int), .int .u16 (p3 : Int), .int .u8 (p4 : Int), .int .u8 (p5 : Int), .bool p6, .bool p7, .int .u8 (p8 : Int), .slice A 0 c] 29)).alloc (.cells #[sv [100, 97, 116, 97, 49]] 9)).heap.size by simp)
    clear hown hbW hL
    go_enter Tryz.func33, Tryz.ntmps33
    go_wp2
    go_ret
    exact ⟨_, rfl, own_base' hownh.out (Nat.le_succ _), hb2.out⟩

set_option maxHeartbeats 1600000 in
set_option maxRecDepth 100000 in
theorem words_data (w : World) (hL : Laid w) (r : Rg) (A : Option Addr) (c : Nat) (xs : List UInt8) (hx : Rd w w.heap.size A c xs) (hl : xs.length ≤ 1024) (hd : r.data = .slice A xs.length c) (hp : r.pid = 3 ∨ r.pid = 11) (h0 : xs ≠ []) :
    Calls Tryz.prog 33 #[.agg (pcells r)] w (ResW w (wordsL r xs)) := by
  have hw : wordsL r xs = [pidL.getD r.pid [], hexL xs] := by
    unfold wordsL; rw [if_neg (by omega), if_neg (by omega), if_neg (by omega), if_neg h0]; rfl
  rw [hw]
  have hpos : 0 < xs.length := List.length_pos_iff.2 h0
  obtain ⟨p0, p1, p2, p3, p4, p5, p6, p7, p8, p9, p10⟩ := r
  simp only at hd hp
  clear hw h0
  subst hd
  simp only [pcells]
  have t1 : (0 : Int) < (xs.length : Int) := by omega
  rcases hp with rfl | rfl
  · have hbW := (Below.refl w.heap.size w).alloc (Nat.le_refl _) (.cells #[.int .u8 3, .int .u8 (p1 : Int), .int .u8 (p2 : Int), .int .u16 (p3 : Int), .int .u8 (p4 : Int), .int .u8 (p5 : Int), .bool p6, .bool p7, .int .u8 (p8 : Int), .slice A xs.length c] 29)
    have hb2 := Lib.hid (hbW.alloc hbW.size (.cells #[sv [100, 97, 116, 97, 48]] 9))
    have cN : (w.alloc (.cells #[.int .u8 3, .int .u8 (p1 : Int), .int .u8 (p2 : Int), .int .u16 (p3 : Int), .int .u8 (p4 : Int), .int .u8 (p5 : Int), .bool p6, .bool p7, .int .u8 (p8 : Int), .slice A xs.length c] 29)).cell? ⟨0, 3, none⟩ = some (sv [100, 97, 116, 97, 48]) := (hL.below hbW).pid 3 (by decide)
    have hown : ((w.alloc (.cells #[.int .u8 3, .int .u8 (p1 : Int), .int .u8 (p2 : Int), .int .u16 (p3 : Int), .int .u8 (p4 : Int), .int .u8 (p5 : Int), .bool p6, .bool p7, .int .u8 (p8 : Int), .slice A xs.length c] 29)).alloc (.cells #[sv [100, 97, 116, 97, 48]] 9)).ownsRow (w.heap.size + 1) 9 1 (.slice (some ⟨w.heap.size + 1, 0, none⟩) 1 1) ([[100, 97, 116, 97, 48]] : List (List UInt8)).length (([[100, 97, 116, 97, 48]] : List (List UInt8)).map sv) := by
      have h := ownS_built (w.alloc (.cells #[.int .u8 3, .int .u8 (p1 : Int), .int .u8 (p2 : Int), .int .u16 (p3 : Int), .int .u8 (p4 : Int), .int .u8 (p5 : Int), .bool p6, .bool p7, .int .u8 (p8 : Int), .slice A xs.length c] 29)) 9 [[100, 97, 116, 97, 48]] (by decide)
      rw [show (w.alloc (.cells #[.int .u8 3, .int .u8 (p1 : Int), .int .u8 (p2 : Int), .int .u16 (p3 : Int), .int .u8 (p4 : Int), .int .u8 (p5 : Int), .bool p6, .bool p7, .int .u8 (p8 : Int), .slice A xs.length c] 29)).heap.size = w.heap.size + 1 by simp] at h
      exact h
    have hownh := Lib.hid hown
    have hle := Lib.hid (show w.heap.size + 1 ≤ ((w.alloc (.cells #[.int .u8 3, .int .u8 (p1 : Int), .int .u8 (p2 : Int), .int .u16 (p3 : Int), .int .u8 (p4 : Int), .int .u8 (p5 : Int), .bool p6, .bool p7, .int .u8 (p8 : Int), .slice A xs.length c] 29)).alloc (.cells #[sv [100, 97, 116, 97, 48]] 9)).heap.size by simp)
    have hKC := hex_any ((w.alloc (.cells #[.int .u8 3, .int .u8 (p1 : Int), .int .u8 (p2 : Int), .int .u16 (p3 : Int), .int .u8 (p4 : Int), .int .u8 (p5 : Int), .bool p6, .bool p7, .int .u8 (p8 : Int), .slice A xs.length c] 29)).alloc (.cells #[sv [100, 97, 116, 97, 48]] 9)) A c xs (hx.belowTop hb2.out) hl
    have hKCh := Lib.hid hKC
    clear hKC
    clear hown hbW hL
    go_enter Tryz.func33, Tryz.ntmps33
    go_wp2_with fail
    have hKC := hKCh.out
    clear hKCh
    generalize ((w.alloc (.cells #[.int .u8 3, .int .u8 (p1 : Int), .int .u8 (p2 : Int), .int .u16 (p3 : Int), .int .u8 (p4 : Int), .int .u8 (p5 : Int), .bool p6, .bool p7, .int .u8 (p8 : Int), .slice A xs.length c] 29)).alloc (.cells #[sv [100, 97, 116, 97, 48]] 9)) = W2 at hownh hle hb2 hKC ⊢
    refine hKC.mono ?_
    rintro e w3 ⟨rfl, b3⟩
    have hown3 := own_below' hownh.out b3
    have hle3 := Nat.le_trans hle.out b3.size
    have hb3 := Lib.hid (hb2.out.trans (b3.mono hb2.out.size))
    clear cN b3 hownh hle hb2 hKC
    obtain ⟨ds, hds⟩ : ∃ ds, hexL xs = ds := ⟨_, rfl⟩
    have hdh := Lib.hid hds
    rw [hds]
    clear hds
    go_wp2_with (at_builtin; refine wpl_appendS1 (w := w3) Tryz.underlying65 Tryz.info9s rfl (.tmp 43) (.tmp 47) rfl (w.heap.size + 1) (.slice (some ⟨w.heap.size + 1, 0, none⟩) 1 1) [[100, 97, 116, 97, 48]] rfl hown3 ds rfl (by decide) hle3 ?_; intro v' w' hown2 hbel)
    go_ret
    refine ⟨_, rfl, ?_, hb3.out.trans (hbel.mono (Nat.le_succ _))⟩
    rw [hdh.out]
    exact own_base' hown2 (Nat.le_succ _)
  · have hbW := (Below.refl w.heap.size w).alloc (Nat.le_refl _) (.cells #[.int .u8 11, .int .u8 (p1 : Int), .int .u8 (p2 : Int), .int .u16 (p3 : Int), .int .u8 (p4 : Int), .int .u8 (p5 : Int), .bool p6, .bool p7, .int .u8 (p8 : Int), .slice A xs.length c] 29)
    have hb2 := Lib.hid (hbW.alloc hbW.size (.cells #[sv [100, 97, 116, 97, 49]] 9))
    have cN : (w.alloc (.cells #[.int .u8 11, .int .u8 (p1 : Int), .int .u8 (p2 : Int), .int .u16 (p3 : Int), .int .u8 (p4 : Int), .int .u8 (p5 : Int), .bool p6, .bool p7, .int .u8 (p8 : Int), .slice A xs.length c] 29)).cell? ⟨0, 11, none⟩ = some (sv [100, 97, 116, 97, 49]) := (hL.below hbW).pid 11 (by decide)
    have hown : ((w.alloc (.cells #[.int .u8 11, .int .u8 (p1 : Int), .int .u8 (p2 : Int), .int .u16 (p3 : Int), .int .u8 (p4 : Int), .int .u8 (p5 : Int), .bool p6, .bool p7, .int .u8 (p8 : Int), .slice A xs.length c] 29)).alloc (.cells #[sv [100, 97, 116, 97, 49]] 9)).ownsRow (w.heap.size + 1) 9 1 (.slice (some ⟨w.heap.size + 1, 0, none⟩) 1 1) ([[100, 97, 116, 97, 49]] : List (List UInt8)).length (([[100, 97, 116, 97, 49]] : List (List UInt8)).map sv) := by
      have h := ownS_built (w.alloc (.cells #[.int .u8 11, .int .u8 (p1 : Int), .int .u8 (p2 : Int), .int .u16 (p3 : Int), .int .u8 (p4 : Int), .int .u8 (p5 : Int), .bool p6, .bool p7, .int .u8 (p8 : Int), .slice A xs.length c] 29)) 9 [[100, 97, 116, 97, 49]] (by decide)
      rw [show (w.alloc (.cells #[.int .u8 11, .int .u8 (p1 : Int), .int .u8 (p2 : Int), .int .u16 (p3 : Int), .int .u8 (p4 : Int), .int .u8 (p5 : Int), .bool p6, .bool p7, .int .u8 (p8 : Int), .slice A xs.length c] 29)).heap.size = w.heap.size + 1 by simp] at h
      exact h
    have hownh := Lib.hid hown
    have hle := Lib.hid (show w.heap.size + 1 ≤ ((w.alloc (.cells #[.int .u8 11, .int .u8 (p1 : Int), .int .u8 (p2 : Int), .int .u16 (p3 : Int), .int .u8 (p4 : Int), .int .u8 (p5 : Int), .bool p6, .bool p7, .int .u8 (p8 : Int), .slice A xs.length c] 29)).alloc (.cells #[sv [100, 97, 116, 97, 49]] 9)).heap.size by simp)
    have hKC := hex_any ((w.alloc (.cells #[.int .u8 11, .int .u8 (p1 : Int), .int .u8 (p2 : Int), .int .u16 (p3 : Int), .int .u8 (p4 : Int), .int .u8 (p5 : Int), .bool p6, .bool p7, .int .u8 (p8 : Int), .slice A xs.length c] 29)).alloc (.cells #[sv [100, 97, 116, 97, 49]] 9)) A c xs (hx.belowTop hb2.out) hl
    have hKCh := Lib.hid hKC
    clear hKC
    clear hown hbW hL
    go_enter Tryz.func33, Tryz.ntmps33
    go_wp2_with fail
    have hKC := hKCh.out
    clear hKCh
    generalize ((w.alloc (.cells #[.int .u8 11, .int .u8 (p1 : Int), .int .u8 (p2 : Int), .int .u16 (p3 : Int), .int .u8 (p4 : Int), .int .u8 (p5 : Int), .bool p6, .bool p7, .int .u8 (p8 : Int), .slice A xs.length c] 29)).alloc (.cells #[sv [100, 97, 116, 97, 49]] 9)) = W2 at hownh hle hb2 hKC ⊢
    refine hKC.mono ?_
    rintro e w3 ⟨rfl, b3⟩
    have hown3 := own_below' hownh.out b3
    have hle3 := Nat.le_trans hle.out b3.size
    have hb3 := Lib.hid (hb2.out.trans (b3.mono hb2.out.size))
    clear cN b3 hownh hle hb2 hKC
    obtain ⟨ds, hds⟩ : ∃ ds, hexL xs = ds := ⟨_, rfl⟩
    have hdh := Lib.hid hds
    rw [hds]
    clear hds
    go_wp2_with (at_builtin; refine wpl_appendS1 (w := w3) Tryz.underlying65 Tryz.info9s rfl (.tmp 43) (.tmp 47) rfl (w.heap.size + 1) (.slice (some ⟨w.heap.size + 1, 0, none⟩) 1 1) [[100, 97, 116, 97, 49]] rfl hown3 ds rfl (by decide) hle3 ?_; intro v' w' hown2 hbel)
    go_ret
    refine ⟨_, rfl, ?_, hb3.out.trans (hbel.mono (Nat.le_succ _))⟩
    rw [hdh.out]
    exact own_base' hown2 (Nat.le_succ _)

end Go.Proofs.YtfblpakoibadoaaGreatDoor

namespace Go.Proofs.YtfblpakoibadoaaGreatDoor
open Go Go.RowKit

set_option maxHeartbeats 1600000 in
set_option maxRecDepth 100000 in
theorem split_false_false (w : World) (hL : Laid w) (h p k : Nat) (hh : h < 256) (hp : p < 256) (hk : k < 4) :
    Calls Tryz.prog 66 #[.agg #[.int .u8 (h : Int), .int .u8 (p : Int), .bool false, .bool false, .int .u8 (k : Int)]] w (ResW w ([[115, 116, 97, 114, 116], Lib.decDigits h ++ [46] ++ Lib.decDigits p, kindL.getD k []])) := by
  have HK := Lib.hid fun (W : World) (hLW : Laid W) => hLW.kind k hk
  generalize kindL.getD k [] = kd at HK ⊢
  have KP := Lib.hid fun W hLW => pair_any W hLW h p hh hp
  generalize Lib.decDigits h ++ [46] ++ Lib.decDigits p = ds at KP ⊢
  have hb0 : (World.drew (w.alloc (.cells #[.int .u8 (h : Int), .int .u8 (p : Int), .bool false, .bool false, .int .u8 (k : Int)] 26))).heap[w.heap.size]? = _ := heap_alloc_new w (.cells #[.int .u8 (h : Int), .int .u8 (p : Int), .bool false, .bool false, .int .u8 (k : Int)] 26)
  have hBW := ((Below.refl w.heap.size w).alloc (Nat.le_refl _) (.cells #[.int .u8 (h : Int), .int .u8 (p : Int), .bool false, .bool false, .int .u8 (k : Int)] 26)).drew
  have hL0 := hL.below hBW
  have hk4 : (k : Int) < 4 := by omega
  clear hL
  go_enter Tryz.func66, Tryz.ntmps66
  go_wp2
  refine startG 16 (l := #[false, false, false, false, false, false, false, false, false, false, false, false, false, false, false, false]) (by kernel_rfl) rfl rfl ?_
  change _root_.Go.Proofs.YtfblpakoibadoaaGreatDoor.wpAnyG _ _ _ _ _ _ _ (World.drew (w.alloc (.cells #[.int .u8 (h : Int), .int .u8 (p : Int), .bool false, .bool false, .int .u8 (k : Int)] 26)))
  generalize World.drew (w.alloc (.cells #[.int .u8 (h : Int), .int .u8 (p : Int), .bool false, .bool false, .int .u8 (k : Int)] 26)) = W0 at hb0 hBW hL0 ⊢
  have c0 : ∀ W, Gr W0 W → W.cell? ⟨w.heap.size, 0, none⟩ = some (.int .u8 (h : Int)) := fun W hW => cell_at ((hW.block w.heap.size (lt_of_block hb0)).trans hb0) 0
  have c1 : ∀ W, Gr W0 W → W.cell? ⟨w.heap.size, 1, none⟩ = some (.int .u8 (p : Int)) := fun W hW => cell_at ((hW.block w.heap.size (lt_of_block hb0)).trans hb0) 1
  have c2 : ∀ W, Gr W0 W → W.cell? ⟨w.heap.size, 2, none⟩ = some (.bool false) := fun W hW => cell_at ((hW.block w.heap.size (lt_of_block hb0)).trans hb0) 2
  have c3 : ∀ W, Gr W0 W → W.cell? ⟨w.heap.size, 3, none⟩ = some (.bool false) := fun W hW => cell_at ((hW.block w.heap.size (lt_of_block hb0)).trans hb0) 3
  have c4 : ∀ W, Gr W0 W → W.cell? ⟨w.heap.size, 4, none⟩ = some (.int .u8 (k : Int)) := fun W hW => cell_at ((hW.block w.heap.size (lt_of_block hb0)).trans hb0) 4
  have hst : ∀ W, Gr W0 W → W.cell? ⟨1, 0, none⟩ = some (sv [115, 116, 97, 114, 116]) := fun W hW => (hL0.below hW).step 0 (by decide)
  have hkd : ∀ W, Gr W0 W → W.cell? ⟨2, k, none⟩ = some (sv kd) := fun W hW => HK.out W (hL0.below hW)
  have hBh := Lib.hid hBW
  have hLh := Lib.hid hL0
  clear hb0 hBW hL0 HK
  ((first | (refine takeG 0 (v := ?_) rfl (by decide +kernel) (by decide +kernel) (by decide +kernel) (fun _ _ _ h => h) (Or.inl ⟨by rfl, ?_⟩) ?_; rotate_left 1; (focus (intro W hW; go_simp; first | done | with_reducible rfl)); try simp only [Act.put, List.setIfInBounds_toArray, List.set_cons_zero, List.set_cons_succ]) | (refine takeG 0 rfl (by decide +kernel) (by decide +kernel) (by decide +kernel) (fun _ _ _ h => h) (Or.inr ⟨by rfl, rfl⟩) ?_; try simp only [Act.put, List.setIfInBounds_toArray, List.set_cons_zero, List.set_cons_succ]) | skip); (first | (refine takeG 1 (v := ?_) rfl (by decide +kernel) (by decide +kernel) (by decide +kernel) (fun _ _ _ h => h) (Or.inl ⟨by rfl, ?_⟩) ?_; rotate_left 1; (focus (intro W hW; go_simp; first | done | with_reducible rfl)); try simp only [Act.put, List.setIfInBounds_toArray, List.set_cons_zero, List.set_cons_succ]) | (refine takeG 1 rfl (by decide +kernel) (by decide +kernel) (by decide +kernel) (fun _ _ _ h => h) (Or.inr ⟨by rfl, rfl⟩) ?_; try simp only [Act.put, List.setIfInBounds_toArray, List.set_cons_zero, List.set_cons_succ]) | skip))
  ((first | (refine takeG 5 (v := ?_) rfl (by decide +kernel) (by decide +kernel) (by decide +kernel) (fun _ _ _ h => h) (Or.inl ⟨by rfl, ?_⟩) ?_; rotate_left 1; (focus (intro W hW; go_simp; first | done | with_reducible rfl)); try simp only [Act.put, List.setIfInBounds_toArray, List.set_cons_zero, List.set_cons_succ]) | (refine takeG 5 rfl (by decide +kernel) (by decide +kernel) (by decide +kernel) (fun _ _ _ h => h) (Or.inr ⟨by rfl, rfl⟩) ?_; try simp only [Act.put, List.setIfInBounds_toArray, List.set_cons_zero, List.set_cons_succ]) | skip); (first | (refine takeG 6 (v := ?_) rfl (by decide +kernel) (by decide +kernel) (by decide +kernel) (fun _ _ _ h => h) (Or.inl ⟨by rfl, ?_⟩) ?_; rotate_left 1; (focus (intro W hW; go_simp; first | done | with_reducible rfl)); try simp only [Act.put, List.setIfInBounds_toArray, List.set_cons_zero, List.set_cons_succ]) | (refine takeG 6 rfl (by decide +kernel) (by decide +kernel) (by decide +kernel) (fun _ _ _ h => h) (Or.inr ⟨by rfl, rfl⟩) ?_; try simp only [Act.put, List.setIfInBounds_toArray, List.set_cons_zero, List.set_cons_succ]) | skip); (first | (refine takeG 7 (v := ?_) rfl (by decide +kernel) (by decide +kernel) (by decide +kernel) (fun _ _ _ h => h) (Or.inl ⟨by rfl, ?_⟩) ?_; rotate_left 1; (focus (intro W hW; go_simp; first | done | with_reducible rfl)); try simp only [Act.put, List.setIfInBounds_toArray, List.set_cons_zero, List.set_cons_succ]) | (refine takeG 7 rfl (by decide +kernel) (by decide +kernel) (by decide +kernel) (fun _ _ _ h => h) (Or.inr ⟨by rfl, rfl⟩) ?_; try simp only [Act.put, List.setIfInBounds_toArray, List.set_cons_zero, List.set_cons_succ]) | skip); (first | (refine takeG 8 (v := ?_) rfl (by decide +kernel) (by decide +kernel) (by decide +kernel) (fun _ _ _ h => h) (Or.inl ⟨by rfl, ?_⟩) ?_; rotate_left 1; (focus (intro W hW; go_simp; first | done | with_reducible rfl)); try simp only [Act.put, List.setIfInBounds_toArray, List.set_cons_zero, List.set_cons_succ]) | (refine takeG 8 rfl (by decide +kernel) (by decide +kernel) (by decide +kernel) (fun _ _ _ h => h) (Or.inr ⟨by rfl, rfl⟩) ?_; try simp only [Act.put, List.setIfInBounds_toArray, List.set_cons_zero, List.set_cons_succ]) | skip))
  ((first | (refine takeG 10 (v := ?_) rfl (by decide +kernel) (by decide +kernel) (by decide +kernel) (fun _ _ _ h => h) (Or.inl ⟨by rfl, ?_⟩) ?_; rotate_left 1; (focus (intro W hW; go_simp; first | done | with_reducible rfl)); try simp only [Act.put, List.setIfInBounds_toArray, List.set_cons_zero, List.set_cons_succ]) | (refine takeG 10 rfl (by decide +kernel) (by decide +kernel) (by decide +kernel) (fun _ _ _ h => h) (Or.inr ⟨by rfl, rfl⟩) ?_; try simp only [Act.put, List.setIfInBounds_toArray, List.set_cons_zero, List.set_cons_succ]) | skip); (first | (refine takeG 11 (v := ?_) rfl (by decide +kernel) (by decide +kernel) (by decide +kernel) (fun _ _ _ h => h) (Or.inl ⟨by rfl, ?_⟩) ?_; rotate_left 1; (focus (intro W hW; go_simp; first | done | with_reducible rfl)); try simp only [Act.put, List.setIfInBounds_toArray, List.set_cons_zero, List.set_cons_succ]) | (refine takeG 11 rfl (by decide +kernel) (by decide +kernel) (by decide +kernel) (fun _ _ _ h => h) (Or.inr ⟨by rfl, rfl⟩) ?_; try simp only [Act.put, List.setIfInBounds_toArray, List.set_cons_zero, List.set_cons_succ]) | skip); (first | (refine takeG 12 (v := ?_) rfl (by decide +kernel) (by decide +kernel) (by decide +kernel) (fun _ _ _ h => h) (Or.inl ⟨by rfl, ?_⟩) ?_; rotate_left 1; (focus (intro W hW; go_simp; first | done | with_reducible rfl)); try simp only [Act.put, List.setIfInBounds_toArray, List.set_cons_zero, List.set_cons_succ]) | (refine takeG 12 rfl (by decide +kernel) (by decide +kernel) (by decide +kernel) (fun _ _ _ h => h) (Or.inr ⟨by rfl, rfl⟩) ?_; try simp only [Act.put, List.setIfInBounds_toArray, List.set_cons_zero, List.set_cons_succ]) | skip); (first | (refine takeG 13 (v := ?_) rfl (by decide +kernel) (by decide +kernel) (by decide +kernel) (fun _ _ _ h => h) (Or.inl ⟨by rfl, ?_⟩) ?_; rotate_left 1; (focus (intro W hW; go_simp; first | done | with_reducible rfl)); try simp only [Act.put, List.setIfInBounds_toArray, List.set_cons_zero, List.set_cons_succ]) | (refine takeG 13 rfl (by decide +kernel) (by decide +kernel) (by decide +kernel) (fun _ _ _ h => h) (Or.inr ⟨by rfl, rfl⟩) ?_; try simp only [Act.put, List.setIfInBounds_toArray, List.set_cons_zero, List.set_cons_succ]) | skip))
  refine stepG 2 rfl (by decide +kernel) (by rfl) ?_
  intro K hK
  go_simp
  refine (bit_any _ false).mono ?_
  rintro e w4 ⟨rfl, rfl⟩
  refine hK _ _ (Gr.refl _) ?_
  clear hK K
  try simp only [Act.put, List.setIfInBounds_toArray, List.set_cons_zero, List.set_cons_succ]
  ((first | (refine takeG 3 (v := ?_) rfl (by decide +kernel) (by decide +kernel) (by decide +kernel) (fun _ _ _ h => h) (Or.inl ⟨by rfl, ?_⟩) ?_; rotate_left 1; (focus (intro W hW; go_simp; first | done | with_reducible rfl)); try simp only [Act.put, List.setIfInBounds_toArray, List.set_cons_zero, List.set_cons_succ]) | (refine takeG 3 rfl (by decide +kernel) (by decide +kernel) (by decide +kernel) (fun _ _ _ h => h) (Or.inr ⟨by rfl, rfl⟩) ?_; try simp only [Act.put, List.setIfInBounds_toArray, List.set_cons_zero, List.set_cons_succ]) | skip); (first | (refine takeG 4 (v := ?_) rfl (by decide +kernel) (by decide +kernel) (by decide +kernel) (fun _ _ _ h => h) (Or.inl ⟨by rfl, ?_⟩) ?_; rotate_left 1; (focus (intro W hW; go_simp; first | done | with_reducible rfl)); try simp only [Act.put, List.setIfInBounds_toArray, List.set_cons_zero, List.set_cons_succ]) | (refine takeG 4 rfl (by decide +kernel) (by decide +kernel) (by decide +kernel) (fun _ _ _ h => h) (Or.inr ⟨by rfl, rfl⟩) ?_; try simp only [Act.put, List.setIfInBounds_toArray, List.set_cons_zero, List.set_cons_succ]) | skip))
  refine stepG 9 rfl (by decide +kernel) (by rfl) ?_
  intro K hK
  go_simp
  refine (KP.out _ hLh.out).mono ?_
  rintro e w5 ⟨rfl, b5⟩
  refine hK _ _ b5 ?_
  clear hK K
  try simp only [Act.put, List.setIfInBounds_toArray, List.set_cons_zero, List.set_cons_succ]
  refine stepG 14 rfl (by decide +kernel) (by rfl) ?_
  intro K hK
  go_simp
  have hbA := (Below.refl w5.heap.size w5).alloc (Nat.le_refl _) (.cells #[sv [115, 116, 97, 114, 116], sv ds, sv kd] 9)
  have hG := Gr.trans b5 hbA
  have d3 := c3 _ hG
  have hbel := Lib.hid (hBh.out.trans (hG.mono hBh.out.size))
  have hown : (w5.alloc (.cells #[sv [115, 116, 97, 114, 116], sv ds, sv kd] 9)).ownsRow w.heap.size 9 1 (.slice (some ⟨w5.heap.size, 0, none⟩) 3 3) ([[115, 116, 97, 114, 116], ds, kd] : List (List UInt8)).length (([[115, 116, 97, 114, 116], ds, kd] : List (List UInt8)).map sv) := own_base' (ownS_built w5 9 [[115, 116, 97, 114, 116], ds, kd] (by simp)) (Nat.le_trans hBh.out.size b5.size)
  have hownh := Lib.hid hown
  have hle := Lib.hid hbel.out.size
  refine hK _ _ hbA ?_
  clear hK K hbA hG hown
  generalize (w5.alloc (.cells #[sv [115, 116, 97, 114, 116], sv ds, sv kd] 9)) = W3 at hownh hbel hle d3 ⊢
  clear c0 c1 c2 c3 c4 hst hkd hBh hLh b5 KP
  generalize w5.heap.size = bk at hownh ⊢
  try simp only [Act.put, List.setIfInBounds_toArray, List.set_cons_zero, List.set_cons_succ]
  ((first | (refine takeG 15 (v := ?_) rfl (by decide +kernel) (by decide +kernel) (by decide +kernel) (fun _ _ _ h => h) (Or.inl ⟨by rfl, ?_⟩) ?_; rotate_left 1; (focus (intro W hW; go_simp; first | done | with_reducible rfl)); try simp only [Act.put, List.setIfInBounds_toArray, List.set_cons_zero, List.set_cons_succ]) | (refine takeG 15 rfl (by decide +kernel) (by decide +kernel) (by decide +kernel) (fun _ _ _ h => h) (Or.inr ⟨by rfl, rfl⟩) ?_; try simp only [Act.put, List.setIfInBounds_toArray, List.set_cons_zero, List.set_cons_succ]) | skip))
  refine doneG (by kernel_rfl) ?_
  go_wp2
  go_ret
  exact ⟨_, rfl, hownh.out, hbel.out⟩

set_option maxHeartbeats 1600000 in
set_option maxRecDepth 100000 in
theorem split_false_true (w : World) (hL : Laid w) (h p k : Nat) (hh : h < 256) (hp : p < 256) (hk : k < 4) :
    Calls Tryz.prog 66 #[.agg #[.int .u8 (h : Int), .int .u8 (p : Int), .bool false, .bool true, .int .u8 (k : Int)]] w (ResW w ([[115, 116, 97, 114, 116], Lib.decDigits h ++ [46] ++ Lib.decDigits p, kindL.getD k []] ++ [[108, 111, 119]])) := by
  have HK := Lib.hid fun (W : World) (hLW : Laid W) => hLW.kind k hk
  generalize kindL.getD k [] = kd at HK ⊢
  have KP := Lib.hid fun W hLW => pair_any W hLW h p hh hp
  generalize Lib.decDigits h ++ [46] ++ Lib.decDigits p = ds at KP ⊢
  have hb0 : (World.drew (w.alloc (.cells #[.int .u8 (h : Int), .int .u8 (p : Int), .bool false, .bool true, .int .u8 (k : Int)] 26))).heap[w.heap.size]? = _ := heap_alloc_new w (.cells #[.int .u8 (h : Int), .int .u8 (p : Int), .bool false, .bool true, .int .u8 (k : Int)] 26)
  have hBW := ((Below.refl w.heap.size w).alloc (Nat.le_refl _) (.cells #[.int .u8 (h : Int), .int .u8 (p : Int), .bool false, .bool true, .int .u8 (k : Int)] 26)).drew
  have hL0 := hL.below hBW
  have hk4 : (k : Int) < 4 := by omega
  clear hL
  go_enter Tryz.func66, Tryz.ntmps66
  go_wp2
  refine startG 16 (l := #[false, false, false, false, false, false, false, false, false, false, false, false, false, false, false, false]) (by kernel_rfl) rfl rfl ?_
  change _root_.Go.Proofs.YtfblpakoibadoaaGreatDoor.wpAnyG _ _ _ _ _ _ _ (World.drew (w.alloc (.cells #[.int .u8 (h : Int), .int .u8 (p : Int), .bool false, .bool true, .int .u8 (k : Int)] 26)))
  generalize World.drew (w.alloc (.cells #[.int .u8 (h : Int), .int .u8 (p : Int), .bool false, .bool true, .int .u8 (k : Int)] 26)) = W0 at hb0 hBW hL0 ⊢
  have c0 : ∀ W, Gr W0 W → W.cell? ⟨w.heap.size, 0, none⟩ = some (.int .u8 (h : Int)) := fun W hW => cell_at ((hW.block w.heap.size (lt_of_block hb0)).trans hb0) 0
  have c1 : ∀ W, Gr W0 W → W.cell? ⟨w.heap.size, 1, none⟩ = some (.int .u8 (p : Int)) := fun W hW => cell_at ((hW.block w.heap.size (lt_of_block hb0)).trans hb0) 1
  have c2 : ∀ W, Gr W0 W → W.cell? ⟨w.heap.size, 2, none⟩ = some (.bool false) := fun W hW => cell_at ((hW.block w.heap.size (lt_of_block hb0)).trans hb0) 2
  have c3 : ∀ W, Gr W0 W → W.cell? ⟨w.heap.size, 3, none⟩ = some (.bool true) := fun W hW => cell_at ((hW.block w.heap.size (lt_of_block hb0)).trans hb0) 3
  have c4 : ∀ W, Gr W0 W → W.cell? ⟨w.heap.size, 4, none⟩ = some (.int .u8 (k : Int)) := fun W hW => cell_at ((hW.block w.heap.size (lt_of_block hb0)).trans hb0) 4
  have hst : ∀ W, Gr W0 W → W.cell? ⟨1, 0, none⟩ = some (sv [115, 116, 97, 114, 116]) := fun W hW => (hL0.below hW).step 0 (by decide)
  have hkd : ∀ W, Gr W0 W → W.cell? ⟨2, k, none⟩ = some (sv kd) := fun W hW => HK.out W (hL0.below hW)
  have hBh := Lib.hid hBW
  have hLh := Lib.hid hL0
  clear hb0 hBW hL0 HK
  ((first | (refine takeG 0 (v := ?_) rfl (by decide +kernel) (by decide +kernel) (by decide +kernel) (fun _ _ _ h => h) (Or.inl ⟨by rfl, ?_⟩) ?_; rotate_left 1; (focus (intro W hW; go_simp; first | done | with_reducible rfl)); try simp only [Act.put, List.setIfInBounds_toArray, List.set_cons_zero, List.set_cons_succ]) | (refine takeG 0 rfl (by decide +kernel) (by decide +kernel) (by decide +kernel) (fun _ _ _ h => h) (Or.inr ⟨by rfl, rfl⟩) ?_; try simp only [Act.put, List.setIfInBounds_toArray, List.set_cons_zero, List.set_cons_succ]) | skip); (first | (refine takeG 1 (v := ?_) rfl (by decide +kernel) (by decide +kernel) (by decide +kernel) (fun _ _ _ h => h) (Or.inl ⟨by rfl, ?_⟩) ?_; rotate_left 1; (focus (intro W hW; go_simp; first | done | with_reducible rfl)); try simp only [Act.put, List.setIfInBounds_toArray, List.set_cons_zero, List.set_cons_succ]) | (refine takeG 1 rfl (by decide +kernel) (by decide +kernel) (by decide +kernel) (fun _ _ _ h => h) (Or.inr ⟨by rfl, rfl⟩) ?_; try simp only [Act.put, List.setIfInBounds_toArray, List.set_cons_zero, List.set_cons_succ]) | skip))
  ((first | (refine takeG 5 (v := ?_) rfl (by decide +kernel) (by decide +kernel) (by decide +kernel) (fun _ _ _ h => h) (Or.inl ⟨by rfl, ?_⟩) ?_; rotate_left 1; (focus (intro W hW; go_simp; first | done | with_reducible rfl)); try simp only [Act.put, List.setIfInBounds_toArray, List.set_cons_zero, List.set_cons_succ]) | (refine takeG 5 rfl (by decide +kernel) (by decide +kernel) (by decide +kernel) (fun _ _ _ h => h) (Or.inr ⟨by rfl, rfl⟩) ?_; try simp only [Act.put, List.setIfInBounds_toArray, List.set_cons_zero, List.set_cons_succ]) | skip); (first | (refine takeG 6 (v := ?_) rfl (by decide +kernel) (by decide +kernel) (by decide +kernel) (fun _ _ _ h => h) (Or.inl ⟨by rfl, ?_⟩) ?_; rotate_left 1; (focus (intro W hW; go_simp; first | done | with_reducible rfl)); try simp only [Act.put, List.setIfInBounds_toArray, List.set_cons_zero, List.set_cons_succ]) | (refine takeG 6 rfl (by decide +kernel) (by decide +kernel) (by decide +kernel) (fun _ _ _ h => h) (Or.inr ⟨by rfl, rfl⟩) ?_; try simp only [Act.put, List.setIfInBounds_toArray, List.set_cons_zero, List.set_cons_succ]) | skip); (first | (refine takeG 7 (v := ?_) rfl (by decide +kernel) (by decide +kernel) (by decide +kernel) (fun _ _ _ h => h) (Or.inl ⟨by rfl, ?_⟩) ?_; rotate_left 1; (focus (intro W hW; go_simp; first | done | with_reducible rfl)); try simp only [Act.put, List.setIfInBounds_toArray, List.set_cons_zero, List.set_cons_succ]) | (refine takeG 7 rfl (by decide +kernel) (by decide +kernel) (by decide +kernel) (fun _ _ _ h => h) (Or.inr ⟨by rfl, rfl⟩) ?_; try simp only [Act.put, List.setIfInBounds_toArray, List.set_cons_zero, List.set_cons_succ]) | skip); (first | (refine takeG 8 (v := ?_) rfl (by decide +kernel) (by decide +kernel) (by decide +kernel) (fun _ _ _ h => h) (Or.inl ⟨by rfl, ?_⟩) ?_; rotate_left 1; (focus (intro W hW; go_simp; first | done | with_reducible rfl)); try simp only [Act.put, List.setIfInBounds_toArray, List.set_cons_zero, List.set_cons_succ]) | (refine takeG 8 rfl (by decide +kernel) (by decide +kernel) (by decide +kernel) (fun _ _ _ h => h) (Or.inr ⟨by rfl, rfl⟩) ?_; try simp only [Act.put, List.setIfInBounds_toArray, List.set_cons_zero, List.set_cons_succ]) | skip))
  ((first | (refine takeG 10 (v := ?_) rfl (by decide +kernel) (by decide +kernel) (by decide +kernel) (fun _ _ _ h => h) (Or.inl ⟨by rfl, ?_⟩) ?_; rotate_left 1; (focus (intro W hW; go_simp; first | done | with_reducible rfl)); try simp only [Act.put, List.setIfInBounds_toArray, List.set_cons_zero, List.set_cons_succ]) | (refine takeG 10 rfl (by decide +kernel) (by decide +kernel) (by decide +kernel) (fun _ _ _ h => h) (Or.inr ⟨by rfl, rfl⟩) ?_; try simp only [Act.put, List.setIfInBounds_toArray, List.set_cons_zero, List.set_cons_succ]) | skip); (first | (refine takeG 11 (v := ?_) rfl (by decide +kernel) (by decide +kernel) (by decide +kernel) (fun _ _ _ h => h) (Or.inl ⟨by rfl, ?_⟩) ?_; rotate_left 1; (focus (intro W hW; go_simp; first | done | with_reducible rfl)); try simp only [Act.put, List.setIfInBounds_toArray, List.set_cons_zero, List.set_cons_succ]) | (refine takeG 11 rfl (by decide +kernel) (by decide +kernel) (by decide +kernel) (fun _ _ _ h => h) (Or.inr ⟨by rfl, rfl⟩) ?_; try simp only [Act.put, List.setIfInBounds_toArray, List.set_cons_zero, List.set_cons_succ]) | skip); (first | (refine takeG 12 (v := ?_) rfl (by decide +kernel) (by decide +kernel) (by decide +kernel) (fun _ _ _ h => h) (Or.inl ⟨by rfl, ?_⟩) ?_; rotate_left 1; (focus (intro W hW; go_simp; first | done | with_reducible rfl)); try simp only [Act.put, List.setIfInBounds_toArray, List.set_cons_zero, List.set_cons_succ]) | (refine takeG 12 rfl (by decide +kernel) (by decide +kernel) (by decide +kernel) (fun _ _ _ h => h) (Or.inr ⟨by rfl, rfl⟩) ?_; try simp only [Act.put, List.setIfInBounds_toArray, List.set_cons_zero, List.set_cons_succ]) | skip); (first | (refine takeG 13 (v := ?_) rfl (by decide +kernel) (by decide +kernel) (by decide +kernel) (fun _ _ _ h => h) (Or.inl ⟨by rfl, ?_⟩) ?_; rotate_left 1; (focus (intro W hW; go_simp; first | done | with_reducible rfl)); try simp only [Act.put, List.setIfInBounds_toArray, List.set_cons_zero, List.set_cons_succ]) | (refine takeG 13 rfl (by decide +kernel) (by decide +kernel) (by decide +kernel) (fun _ _ _ h => h) (Or.inr ⟨by rfl, rfl⟩) ?_; try simp only [Act.put, List.setIfInBounds_toArray, List.set_cons_zero, List.set_cons_succ]) | skip))
  refine stepG 2 rfl (by decide +kernel) (by rfl) ?_
  intro K hK
  go_simp
  refine (bit_any _ false).mono ?_
  rintro e w4 ⟨rfl, rfl⟩
  refine hK _ _ (Gr.refl _) ?_
  clear hK K
  try simp only [Act.put, List.setIfInBounds_toArray, List.set_cons_zero, List.set_cons_succ]
  ((first | (refine takeG 3 (v := ?_) rfl (by decide +kernel) (by decide +kernel) (by decide +kernel) (fun _ _ _ h => h) (Or.inl ⟨by rfl, ?_⟩) ?_; rotate_left 1; (focus (intro W hW; go_simp; first | done | with_reducible rfl)); try simp only [Act.put, List.setIfInBounds_toArray, List.set_cons_zero, List.set_cons_succ]) | (refine takeG 3 rfl (by decide +kernel) (by decide +kernel) (by decide +kernel) (fun _ _ _ h => h) (Or.inr ⟨by rfl, rfl⟩) ?_; try simp only [Act.put, List.setIfInBounds_toArray, List.set_cons_zero, List.set_cons_succ]) | skip); (first | (refine takeG 4 (v := ?_) rfl (by decide +kernel) (by decide +kernel) (by decide +kernel) (fun _ _ _ h => h) (Or.inl ⟨by rfl, ?_⟩) ?_; rotate_left 1; (focus (intro W hW; go_simp; first | done | with_reducible rfl)); try simp only [Act.put, List.setIfInBounds_toArray, List.set_cons_zero, List.set_cons_succ]) | (refine takeG 4 rfl (by decide +kernel) (by decide +kernel) (by decide +kernel) (fun _ _ _ h => h) (Or.inr ⟨by rfl, rfl⟩) ?_; try simp only [Act.put, List.setIfInBounds_toArray, List.set_cons_zero, List.set_cons_succ]) | skip))
  refine stepG 9 rfl (by decide +kernel) (by rfl) ?_
  intro K hK
  go_simp
  refine (KP.out _ hLh.out).mono ?_
  rintro e w5 ⟨rfl, b5⟩
  refine hK _ _ b5 ?_
  clear hK K
  try simp only [Act.put, List.setIfInBounds_toArray, List.set_cons_zero, List.set_cons_succ]
  refine stepG 14 rfl (by decide +kernel) (by rfl) ?_
  intro K hK
  go_simp
  have hbA := (Below.refl w5.heap.size w5).alloc (Nat.le_refl _) (.cells #[sv [115, 116, 97, 114, 116], sv ds, sv kd] 9)
  have hG := Gr.trans b5 hbA
  have d3 := c3 _ hG
  have hbel := Lib.hid (hBh.out.trans (hG.mono hBh.out.size))
  have hown : (w5.alloc (.cells #[sv [115, 116, 97, 114, 116], sv ds, sv kd] 9)).ownsRow w.heap.size 9 1 (.slice (some ⟨w5.heap.size, 0, none⟩) 3 3) ([[115, 116, 97, 114, 116], ds, kd] : List (List UInt8)).length (([[115, 116, 97, 114, 116], ds, kd] : List (List UInt8)).map sv) := own_base' (ownS_built w5 9 [[115, 116, 97, 114, 116], ds, kd] (by simp)) (Nat.le_trans hBh.out.size b5.size)
  have hownh := Lib.hid hown
  have hle := Lib.hid hbel.out.size
  refine hK _ _ hbA ?_
  clear hK K hbA hG hown
  generalize (w5.alloc (.cells #[sv [115, 116, 97, 114, 116], sv ds, sv kd] 9)) = W3 at hownh hbel hle d3 ⊢
  clear c0 c1 c2 c3 c4 hst hkd hBh hLh b5 KP
  generalize w5.heap.size = bk at hownh ⊢
  try simp only [Act.put, List.setIfInBounds_toArray, List.set_cons_zero, List.set_cons_succ]
  ((first | (refine takeG 15 (v := ?_) rfl (by decide +kernel) (by decide +kernel) (by decide +kernel) (fun _ _ _ h => h) (Or.inl ⟨by rfl, ?_⟩) ?_; rotate_left 1; (focus (intro W hW; go_simp; first | done | with_reducible rfl)); try simp only [Act.put, List.setIfInBounds_toArray, List.set_cons_zero, List.set_cons_succ]) | (refine takeG 15 rfl (by decide +kernel) (by decide +kernel) (by decide +kernel) (fun _ _ _ h => h) (Or.inr ⟨by rfl, rfl⟩) ?_; try simp only [Act.put, List.setIfInBounds_toArray, List.set_cons_zero, List.set_cons_succ]) | skip))
  refine doneG (by kernel_rfl) ?_
  go_wp2_with (at_builtin; refine wpl_appendS1 (w := W3) Tryz.underlying65 Tryz.info9s rfl (.tmp 21) (.tmp 22) rfl w.heap.size (.slice (some ⟨bk, 0, none⟩) 3 3) [[115, 116, 97, 114, 116], ds, kd] rfl hownh.out [108, 111, 119] rfl (by simp) hle.out ?_; intro v' w' hown2 hbel2)
  go_ret
  exact ⟨_, rfl, hown2, hbel.out.trans hbel2⟩

set_option maxHeartbeats 1600000 in
set_option maxRecDepth 100000 in
theorem split_true_false (w : World) (hL : Laid w) (h p k : Nat) (hh : h < 256) (hp : p < 256) (hk : k < 4) :
    Calls Tryz.prog 66 #[.agg #[.int .u8 (h : Int), .int .u8 (p : Int), .bool true, .bool false, .int .u8 (k : Int)]] w (ResW w ([[99, 111, 109, 112, 108, 101, 116, 101], Lib.decDigits h ++ [46] ++ Lib.decDigits p, kindL.getD k []])) := by
  have HK := Lib.hid fun (W : World) (hLW : Laid W) => hLW.kind k hk
  generalize kindL.getD k [] = kd at HK ⊢
  have KP := Lib.hid fun W hLW => pair_any W hLW h p hh hp
  generalize Lib.decDigits h ++ [46] ++ Lib.decDigits p = ds at KP ⊢
  have hb0 : (World.drew (w.alloc (.cells #[.int .u8 (h : Int), .int .u8 (p : Int), .bool true, .bool false, .int .u8 (k : Int)] 26))).heap[w.heap.size]? = _ := heap_alloc_new w (.cells #[.int .u8 (h : Int), .int .u8 (p : Int), .bool true, .bool false, .int .u8 (k : Int)] 26)
  have hBW := ((Below.refl w.heap.size w).alloc (Nat.le_refl _) (.cells #[.int .u8 (h : Int), .int .u8 (p : Int), .bool true, .bool false, .int .u8 (k : Int)] 26)).drew
  have hL0 := hL.below hBW
  have hk4 : (k : Int) < 4 := by omega
  clear hL
  go_enter Tryz.func66, Tryz.ntmps66
  go_wp2
  refine startG 16 (l := #[false, false, false, false, false, false, false, false, false, false, false, false, false, false, false, false]) (by kernel_rfl) rfl rfl ?_
  change _root_.Go.Proofs.YtfblpakoibadoaaGreatDoor.wpAnyG _ _ _ _ _ _ _ (World.drew (w.alloc (.cells #[.int .u8 (h : Int), .int .u8 (p : Int), .bool true, .bool false, .int .u8 (k : Int)] 26)))
  generalize World.drew (w.alloc (.cells #[.int .u8 (h : Int), .int .u8 (p : Int), .bool true, .bool false, .int .u8 (k : Int)] 26)) = W0 at hb0 hBW hL0 ⊢
  have c0 : ∀ W, Gr W0 W → W.cell? ⟨w.heap.size, 0, none⟩ = some (.int .u8 (h : Int)) := fun W hW => cell_at ((hW.block w.heap.size (lt_of_block hb0)).trans hb0) 0
  have c1 : ∀ W, Gr W0 W → W.cell? ⟨w.heap.size, 1, none⟩ = some (.int .u8 (p : Int)) := fun W hW => cell_at ((hW.block w.heap.size (lt_of_block hb0)).trans hb0) 1
  have c2 : ∀ W, Gr W0 W → W.cell? ⟨w.heap.size, 2, none⟩ = some (.bool true) := fun W hW => cell_at ((hW.block w.heap.size (lt_of_block hb0)).trans hb0) 2
  have c3 : ∀ W, Gr W0 W → W.cell? ⟨w.heap.size, 3, none⟩ = some (.bool false) := fun W hW => cell_at ((hW.block w.heap.size (lt_of_block hb0)).trans hb0) 3
  have c4 : ∀ W, Gr W0 W → W.cell? ⟨w.heap.size, 4, none⟩ = some (.int .u8 (k : Int)) := fun W hW => cell_at ((hW.block w.heap.size (lt_of_block hb0)).trans hb0) 4
  have hst : ∀ W, Gr W0 W → W.cell? ⟨1, 1, none⟩ = some (sv [99, 111, 109, 112, 108, 101, 116, 101]) := fun W hW => (hL0.below hW).step 1 (by decide)
  have hkd : ∀ W, Gr W0 W → W.cell? ⟨2, k, none⟩ = some (sv kd) := fun W hW => HK.out W (hL0.below hW)
  have hBh := Lib.hid hBW
  have hLh := Lib.hid hL0
  clear hb0 hBW hL0 HK
  ((first | (refine takeG 0 (v := ?_) rfl (by decide +kernel) (by decide +kernel) (by decide +kernel) (fun _ _ _ h => h) (Or.inl ⟨by rfl, ?_⟩) ?_; rotate_left 1; (focus (intro W hW; go_simp; first | done | with_reducible rfl)); try simp only [Act.put, List.setIfInBounds_toArray, List.set_cons_zero, List.set_cons_succ]) | (refine takeG 0 rfl (by decide +kernel) (by decide +kernel) (by decide +kernel) (fun _ _ _ h => h) (Or.inr ⟨by rfl, rfl⟩) ?_; try simp only [Act.put, List.setIfInBounds_toArray, List.set_cons_zero, List.set_cons_succ]) | skip); (first | (refine takeG 1 (v := ?_) rfl (by decide +kernel) (by decide +kernel) (by decide +kernel) (fun _ _ _ h => h) (Or.inl ⟨by rfl, ?_⟩) ?_; rotate_left 1; (focus (intro W hW; go_simp; first | done | with_reducible rfl)); try simp only [Act.put, List.setIfInBounds_toArray, List.set_cons_zero, List.set_cons_succ]) | (refine takeG 1 rfl (by decide +kernel) (by decide +kernel) (by decide +kernel) (fun _ _ _ h => h) (Or.inr ⟨by rfl, rfl⟩) ?_; try simp only [Act.put, List.setIfInBounds_toArray, List.set_cons_zero, List.set_cons_succ]) | skip))
  ((first | (refine takeG 5 (v := ?_) rfl (by decide +kernel) (by decide +kernel) (by decide +kernel) (fun _ _ _ h => h) (Or.inl ⟨by rfl, ?_⟩) ?_; rotate_left 1; (focus (intro W hW; go_simp; first | done | with_reducible rfl)); try simp only [Act.put, List.setIfInBounds_toArray, List.set_cons_zero, List.set_cons_succ]) | (refine takeG 5 rfl (by decide +kernel) (by decide +kernel) (by decide +kernel) (fun _ _ _ h => h) (Or.inr ⟨by rfl, rfl⟩) ?_; try simp only [Act.put, List.setIfInBounds_toArray, List.set_cons_zero, List.set_cons_succ]) | skip); (first | (refine takeG 6 (v := ?_) rfl (by decide +kernel) (by decide +kernel) (by decide +kernel) (fun _ _ _ h => h) (Or.inl ⟨by rfl, ?_⟩) ?_; rotate_left 1; (focus (intro W hW; go_simp; first | done | with_reducible rfl)); try simp only [Act.put, List.setIfInBounds_toArray, List.set_cons_zero, List.set_cons_succ]) | (refine takeG 6 rfl (by decide +kernel) (by decide +kernel) (by decide +kernel) (fun _ _ _ h => h) (Or.inr ⟨by rfl, rfl⟩) ?_; try simp only [Act.put, List.setIfInBounds_toArray, List.set_cons_zero, List.set_cons_succ]) | skip); (first | (refine takeG 7 (v := ?_) rfl (by decide +kernel) (by decide +kernel) (by decide +kernel) (fun _ _ _ h => h) (Or.inl ⟨by rfl, ?_⟩) ?_; rotate_left 1; (focus (intro W hW; go_simp; first | done | with_reducible rfl)); try simp only [Act.put, List.setIfInBounds_toArray, List.set_cons_zero, List.set_cons_succ]) | (refine takeG 7 rfl (by decide +kernel) (by decide +kernel) (by decide +kernel) (fun _ _ _ h => h) (Or.inr ⟨by rfl, rfl⟩) ?_; try simp only [Act.put, List.setIfInBounds_toArray, List.set_cons_zero, List.set_cons_succ]) | skip); (first | (refine takeG 8 (v := ?_) rfl (by decide +kernel) (by decide +kernel) (by decide +kernel) (fun _ _ _ h => h) (Or.inl ⟨by rfl, ?_⟩) ?_; rotate_left 1; (focus (intro W hW; go_simp; first | done | with_reducible rfl)); try simp only [Act.put, List.setIfInBounds_toArray, List.set_cons_zero, List.set_cons_succ]) | (refine takeG 8 rfl (by decide +kernel) (by decide +kernel) (by decide +kernel) (fun _ _ _ h => h) (Or.inr ⟨by rfl, rfl⟩) ?_; try simp only [Act.put, List.setIfInBounds_toArray, List.set_cons_zero, List.set_cons_succ]) | skip))
  ((first | (refine takeG 10 (v := ?_) rfl (by decide +kernel) (by decide +kernel) (by decide +kernel) (fun _ _ _ h => h) (Or.inl ⟨by rfl, ?_⟩) ?_; rotate_left 1; (focus (intro W hW; go_simp; first | done | with_reducible rfl)); try simp only [Act.put, List.setIfInBounds_toArray, List.set_cons_zero, List.set_cons_succ]) | (refine takeG 10 rfl (by decide +kernel) (by decide +kernel) (by decide +kernel) (fun _ _ _ h => h) (Or.inr ⟨by rfl, rfl⟩) ?_; try simp only [Act.put, List.setIfInBounds_toArray, List.set_cons_zero, List.set_cons_succ]) | skip); (first | (refine takeG 11 (v := ?_) rfl (by decide +kernel) (by decide +kernel) (by decide +kernel) (fun _ _ _ h => h) (Or.inl ⟨by rfl, ?_⟩) ?_; rotate_left 1; (focus (intro W hW; go_simp; first | done | with_reducible rfl)); try simp only [Act.put, List.setIfInBounds_toArray, List.set_cons_zero, List.set_cons_succ]) | (refine takeG 11 rfl (by decide +kernel) (by decide +kernel) (by decide +kernel) (fun _ _ _ h => h) (Or.inr ⟨by rfl, rfl⟩) ?_; try simp only [Act.put, List.setIfInBounds_toArray, List.set_cons_zero, List.set_cons_succ]) | skip); (first | (refine takeG 12 (v := ?_) rfl (by decide +kernel) (by decide +kernel) (by decide +kernel) (fun _ _ _ h => h) (Or.inl ⟨by rfl, ?_⟩) ?_; rotate_left 1; (focus (intro W hW; go_simp; first | done | with_reducible rfl)); try simp only [Act.put, List.setIfInBounds_toArray, List.set_cons_zero, List.set_cons_succ]) | (refine takeG 12 rfl (by decide +kernel) (by decide +kernel) (by decide +kernel) (fun _ _ _ h => h) (Or.inr ⟨by rfl, rfl⟩) ?_; try simp only [Act.put, List.setIfInBounds_toArray, List.set_cons_zero, List.set_cons_succ]) | skip); (first | (refine takeG 13 (v := ?_) rfl (by decide +kernel) (by decide +kernel) (by decide +kernel) (fun _ _ _ h => h) (Or.inl ⟨by rfl, ?_⟩) ?_; rotate_left 1; (focus (intro W hW; go_simp; first | done | with_reducible rfl)); try simp only [Act.put, List.setIfInBounds_toArray, List.set_cons_zero, List.set_cons_succ]) | (refine takeG 13 rfl (by decide +kernel) (by decide +kernel) (by decide +kernel) (fun _ _ _ h => h) (Or.inr ⟨by rfl, rfl⟩) ?_; try simp only [Act.put, List.setIfInBounds_toArray, List.set_cons_zero, List.set_cons_succ]) | skip))
  refine stepG 2 rfl (by decide +kernel) (by rfl) ?_
  intro K hK
  go_simp
  refine (bit_any _ true).mono ?_
  rintro e w4 ⟨rfl, rfl⟩
  refine hK _ _ (Gr.refl _) ?_
  clear hK K
  try simp only [Act.put, List.setIfInBounds_toArray, List.set_cons_zero, List.set_cons_succ]
  ((first | (refine takeG 3 (v := ?_) rfl (by decide +kernel) (by decide +kernel) (by decide +kernel) (fun _ _ _ h => h) (Or.inl ⟨by rfl, ?_⟩) ?_; rotate_left 1; (focus (intro W hW; go_simp; first | done | with_reducible rfl)); try simp only [Act.put, List.setIfInBounds_toArray, List.set_cons_zero, List.set_cons_succ]) | (refine takeG 3 rfl (by decide +kernel) (by decide +kernel) (by decide +kernel) (fun _ _ _ h => h) (Or.inr ⟨by rfl, rfl⟩) ?_; try simp only [Act.put, List.setIfInBounds_toArray, List.set_cons_zero, List.set_cons_succ]) | skip); (first | (refine takeG 4 (v := ?_) rfl (by decide +kernel) (by decide +kernel) (by decide +kernel) (fun _ _ _ h => h) (Or.inl ⟨by rfl, ?_⟩) ?_; rotate_left 1; (focus (intro W hW; go_simp; first | done | with_reducible rfl)); try simp only [Act.put, List.setIfInBounds_toArray, List.set_cons_zero, List.set_cons_succ]) | (refine takeG 4 rfl (by decide +kernel) (by decide +kernel) (by decide +kernel) (fun _ _ _ h => h) (Or.inr ⟨by rfl, rfl⟩) ?_; try simp only [Act.put, List.setIfInBounds_toArray, List.set_cons_zero, List.set_cons_succ]) | skip))
  refine stepG 9 rfl (by decide +kernel) (by rfl) ?_
  intro K hK
  go_simp
  refine (KP.out _ hLh.out).mono ?_
  rintro e w5 ⟨rfl, b5⟩
  refine hK _ _ b5 ?_
  clear hK K
  try simp only [Act.put, List.setIfInBounds_toArray, List.set_cons_zero, List.set_cons_succ]
  refine stepG 14 rfl (by decide +kernel) (by rfl) ?_
  intro K hK
  go_simp
  have hbA := (Below.refl w5.heap.size w5).alloc (Nat.le_refl _) (.cells #[sv [99, 111, 109, 112, 108, 101, 116, 101], sv ds, sv kd] 9)
  have hG := Gr.trans b5 hbA
  have d3 := c3 _ hG
  have hbel := Lib.hid (hBh.out.trans (hG.mono hBh.out.size))
  have hown : (w5.alloc (.cells #[sv [99, 111, 109, 112, 108, 101, 116, 101], sv ds, sv kd] 9)).ownsRow w.heap.size 9 1 (.slice (some ⟨w5.heap.size, 0, none⟩) 3 3) ([[99, 111, 109, 112, 108, 101, 116, 101], ds, kd] : List (List UInt8)).length (([[99, 111, 109, 112, 108, 101, 116, 101], ds, kd] : List (List UInt8)).map sv) := own_base' (ownS_built w5 9 [[99, 111, 109, 112, 108, 101, 116, 101], ds, kd] (by simp)) (Nat.le_trans hBh.out.size b5.size)
  have hownh := Lib.hid hown
  have hle := Lib.hid hbel.out.size
  refine hK _ _ hbA ?_
  clear hK K hbA hG hown
  generalize (w5.alloc (.cells #[sv [99, 111, 109, 112, 108, 101, 116, 101], sv ds, sv kd] 9)) = W3 at hownh hbel hle d3 ⊢
  clear c0 c1 c2 c3 c4 hst hkd hBh hLh b5 KP
  generalize w5.heap.size = bk at hownh ⊢
  try simp only [Act.put, List.setIfInBounds_toArray, List.set_cons_zero, List.set_cons_succ]
  ((first | (refine takeG 15 (v := ?_) rfl (by decide +kernel) (by decide +kernel) (by decide +kernel) (fun _ _ _ h => h) (Or.inl ⟨by rfl, ?_⟩) ?_; rotate_left 1; (focus (intro W hW; go_simp; first | done | with_reducible rfl)); try simp only [Act.put, List.setIfInBounds_toArray, List.set_cons_zero, List.set_cons_succ]) | (refine takeG 15 rfl (by decide +kernel) (by decide +kernel) (by decide +kernel) (fun _ _ _ h => h) (Or.inr ⟨by rfl, rfl⟩) ?_; try simp only [Act.put, List.setIfInBounds_toArray, List.set_cons_zero, List.set_cons_succ]) | skip))
  refine doneG (by kernel_rfl) ?_
  go_wp2
  go_ret
  exact ⟨_, rfl, hownh.out, hbel.out⟩

set_option maxHeartbeats 1600000 in
set_option maxRecDepth 100000 in
theorem split_true_true (w : World) (hL : Laid w) (h p k : Nat) (hh : h < 256) (hp : p < 256) (hk : k < 4) :
    Calls Tryz.prog 66 #[.agg #[.int .u8 (h : Int), .int .u8 (p : Int), .bool true, .bool true, .int .u8 (k : Int)]] w (ResW w ([[99, 111, 109, 112, 108, 101, 116, 101], Lib.decDigits h ++ [46] ++ Lib.decDigits p, kindL.getD k []] ++ [[108, 111, 119]])) := by
  have HK := Lib.hid fun (W : World) (hLW : Laid W) => hLW.kind k hk
  generalize kindL.getD k [] = kd at HK ⊢
  have KP := Lib.hid fun W hLW => pair_any W hLW h p hh hp
  generalize Lib.decDigits h ++ [46] ++ Lib.decDigits p = ds at KP ⊢
  have hb0 : (World.drew (w.alloc (.cells #[.int .u8 (h : Int), .int .u8 (p : Int), .bool true, .bool true, .int .u8 (k : Int)] 26))).heap[w.heap.size]? = _ := heap_alloc_new w (.cells #[.int .u8 (h : Int), .int .u8 (p : Int), .bool true, .bool true, .int .u8 (k : Int)] 26)
  have hBW := ((Below.refl w.heap.size w).alloc (Nat.le_refl _) (.cells #[.int .u8 (h : Int), .int .u8 (p : Int), .bool true, .bool true, .int .u8 (k : Int)] 26)).drew
  have hL0 := hL.below hBW
  have hk4 : (k : Int) < 4 := by omega
  clear hL
  go_enter Tryz.func66, Tryz.ntmps66
  go_wp2
  refine startG 16 (l := #[false, false, false, false, false, false, false, false, false, false, false, false, false, false, false, false]) (by kernel_rfl) rfl rfl ?_
  change _root_.Go.Proofs.YtfblpakoibadoaaGreatDoor.wpAnyG _ _ _ _ _ _ _ (World.drew (w.alloc (.cells #[.int .u8 (h : Int), .int .u8 (p : Int), .bool true, .bool true, .int .u8 (k : Int)] 26)))
  generalize World.drew (w.alloc (.cells #[.int .u8 (h : Int), .int .u8 (p : Int), .bool true, .bool true, .int .u8 (k : Int)] 26)) = W0 at hb0 hBW hL0 ⊢
  have c0 : ∀ W, Gr W0 W → W.cell? ⟨w.heap.size, 0, none⟩ = some (.int .u8 (h : Int)) := fun W hW => cell_at ((hW.block w.heap.size (lt_of_block hb0)).trans hb0) 0
  have c1 : ∀ W, Gr W0 W → W.cell? ⟨w.heap.size, 1, none⟩ = some (.int .u8 (p : Int)) := fun W hW => cell_at ((hW.block w.heap.size (lt_of_block hb0)).trans hb0) 1
  have c2 : ∀ W, Gr W0 W → W.cell? ⟨w.heap.size, 2, none⟩ = some (.bool true) := fun W hW => cell_at ((hW.block w.heap.size (lt_of_block hb0)).trans hb0) 2
  have c3 : ∀ W, Gr W0 W → W.cell? ⟨w.heap.size, 3, none⟩ = some (.bool true) := fun W hW => cell_at ((hW.block w.heap.size (lt_of_block hb0)).trans hb0) 3
  have c4 : ∀ W, Gr W0 W → W.cell? ⟨w.heap.size, 4, none⟩ = some (.int .u8 (k : Int)) := fun W hW => cell_at ((hW.block w.heap.size (lt_of_block hb0)).trans hb0) 4
  have hst : ∀ W, Gr W0 W → W.cell? ⟨1, 1, none⟩ = some (sv [99, 111, 109, 112, 108, 101, 116, 101]) := fun W hW => (hL0.below hW).step 1 (by decide)
  have hkd : ∀ W, Gr W0 W → W.cell? ⟨2, k, none⟩ = some (sv kd) := fun W hW => HK.out W (hL0.below hW)
  have hBh := Lib.hid hBW
  have hLh := Lib.hid hL0
  clear hb0 hBW hL0 HK
  ((first | (refine takeG 0 (v := ?_) rfl (by decide +kernel) (by decide +kernel) (by decide +kernel) (fun _ _ _ h => h) (Or.inl ⟨by rfl, ?_⟩) ?_; rotate_left 1; (focus (intro W hW; go_simp; first | done | with_reducible rfl)); try simp only [Act.put, List.setIfInBounds_toArray, List.set_cons_zero, List.set_cons_succ]) | (refine takeG 0 rfl (by decide +kernel) (by decide +kernel) (by decide +kernel) (fun _ _ _ h => h) (Or.inr ⟨by rfl, rfl⟩) ?_; try simp only [Act.put, List.setIfInBounds_toArray, List.set_cons_zero, List.set_cons_succ]) | skip); (first | (refine takeG 1 (v := ?_) rfl (by decide +kernel) (by decide +kernel) (by decide +kernel) (fun _ _ _ h => h) (Or.inl ⟨by rfl, ?_⟩) ?_; rotate_left 1; (focus (intro W hW; go_simp; first | done | with_reducible rfl)); try simp only [Act.put, List.setIfInBounds_toArray, List.set_cons_zero, List.set_cons_succ]) | (refine takeG 1 rfl (by decide +kernel) (by decide +kernel) (by decide +kernel) (fun _ _ _ h => h) (Or.inr ⟨by rfl, rfl⟩) ?_; try simp only [Act.put, List.setIfInBounds_toArray, List.set_cons_zero, List.set_cons_succ]) | skip))
  ((first | (refine takeG 5 (v := ?_) rfl (by decide +kernel) (by decide +kernel) (by decide +kernel) (fun _ _ _ h => h) (Or.inl ⟨by rfl, ?_⟩) ?_; rotate_left 1; (focus (intro W hW; go_simp; first | done | with_reducible rfl)); try simp only [Act.put, List.setIfInBounds_toArray, List.set_cons_zero, List.set_cons_succ]) | (refine takeG 5 rfl (by decide +kernel) (by decide +kernel) (by decide +kernel) (fun _ _ _ h => h) (Or.inr ⟨by rfl, rfl⟩) ?_; try simp only [Act.put, List.setIfInBounds_toArray, List.set_cons_zero, List.set_cons_succ]) | skip); (first | (refine takeG 6 (v := ?_) rfl (by decide +kernel) (by decide +kernel) (by decide +kernel) (fun _ _ _ h => h) (Or.inl ⟨by rfl, ?_⟩) ?_; rotate_left 1; (focus (intro W hW; go_simp; first | done | with_reducible rfl)); try simp only [Act.put, List.setIfInBounds_toArray, List.set_cons_zero, List.set_cons_succ]) | (refine takeG 6 rfl (by decide +kernel) (by decide +kernel) (by decide +kernel) (fun _ _ _ h => h) (Or.inr ⟨by rfl, rfl⟩) ?_; try simp only [Act.put, List.setIfInBounds_toArray, List.set_cons_zero, List.set_cons_succ]) | skip); (first | (refine takeG 7 (v := ?_) rfl (by decide +kernel) (by decide +kernel) (by decide +kernel) (fun _ _ _ h => h) (Or.inl ⟨by rfl, ?_⟩) ?_; rotate_left 1; (focus (intro W hW; go_simp; first | done | with_reducible rfl)); try simp only [Act.put, List.setIfInBounds_toArray, List.set_cons_zero, List.set_cons_succ]) | (refine takeG 7 rfl (by decide +kernel) (by decide +kernel) (by decide +kernel) (fun _ _ _ h => h) (Or.inr ⟨by rfl, rfl⟩) ?_; try simp only [Act.put, List.setIfInBounds_toArray, List.set_cons_zero, List.set_cons_succ]) | skip); (first | (refine takeG 8 (v := ?_) rfl (by decide +kernel) (by decide +kernel) (by decide +kernel) (fun _ _ _ h => h) (Or.inl ⟨by rfl, ?_⟩) ?_; rotate_left 1; (focus (intro W hW; go_simp; first | done | with_reducible rfl)); try simp only [Act.put, List.setIfInBounds_toArray, List.set_cons_zero, List.set_cons_succ]) | (refine takeG 8 rfl (by decide +kernel) (by decide +kernel) (by decide +kernel) (fun _ _ _ h => h) (Or.inr ⟨by rfl, rfl⟩) ?_; try simp only [Act.put, List.setIfInBounds_toArray, List.set_cons_zero, List.set_cons_succ]) | skip))
  ((first | (refine takeG 10 (v := ?_) rfl (by decide +kernel) (by decide +kernel) (by decide +kernel) (fun _ _ _ h => h) (Or.inl ⟨by rfl, ?_⟩) ?_; rotate_left 1; (focus (intro W hW; go_simp; first | done | with_reducible rfl)); try simp only [Act.put, List.setIfInBounds_toArray, List.set_cons_zero, List.set_cons_succ]) | (refine takeG 10 rfl (by decide +kernel) (by decide +kernel) (by decide +kernel) (fun _ _ _ h => h) (Or.inr ⟨by rfl, rfl⟩) ?_; try simp only [Act.put, List.setIfInBounds_toArray, List.set_cons_zero, List.set_cons_succ]) | skip); (first | (refine takeG 11 (v := ?_) rfl (by decide +kernel) (by decide +kernel) (by decide +kernel) (fun _ _ _ h => h) (Or.inl ⟨by rfl, ?_⟩) ?_; rotate_left 1; (focus (intro W hW; go_simp; first | done | with_reducible rfl)); try simp only [Act.put, List.setIfInBounds_toArray, List.set_cons_zero, List.set_cons_succ]) | (refine takeG 11 rfl (by decide +kernel) (by decide +kernel) (by decide +kernel) (fun _ _ _ h => h) (Or.inr ⟨by rfl, rfl⟩) ?_; try simp only [Act.put, List.setIfInBounds_toArray, List.set_cons_zero, List.set_cons_succ]) | skip); (first | (refine takeG 12 (v := ?_) rfl (by decide +kernel) (by decide +kernel) (by decide +kernel) (fun _ _ _ h => h) (Or.inl ⟨by rfl, ?_⟩) ?_; rotate_left 1; (focus (intro W hW; go_simp; first | done | with_reducible rfl)); try simp only [Act.put, List.setIfInBounds_toArray, List.set_cons_zero, List.set_cons_succ]) | (refine takeG 12 rfl (by decide +kernel) (by decide +kernel) (by decide +kernel) (fun _ _ _ h => h) (Or.inr ⟨by rfl, rfl⟩) ?_; try simp only [Act.put, List.setIfInBounds_toArray, List.set_cons_zero, List.set_cons_succ]) | skip); (first | (refine takeG 13 (v := ?_) rfl (by decide +kernel) (by decide +kernel) (by decide +kernel) (fun _ _ _ h => h) (Or.inl ⟨by rfl, ?_⟩) ?_; rotate_left 1; (focus (intro W hW; go_simp; first | done | with_reducible rfl)); try simp only [Act.put, List.setIfInBounds_toArray, List.set_cons_zero, List.set_cons_succ]) | (refine takeG 13 rfl (by decide +kernel) (by decide +kernel) (by decide +kernel) (fun _ _ _ h => h) (Or.inr ⟨by rfl, rfl⟩) ?_; try simp only [Act.put, List.setIfInBounds_toArray, List.set_cons_zero, List.set_cons_succ]) | skip))
  refine stepG 2 rfl (by decide +kernel) (by rfl) ?_
  intro K hK
  go_simp
  refine (bit_any _ true).mono ?_
  rintro e w4 ⟨rfl, rfl⟩
  refine hK _ _ (Gr.refl _) ?_
  clear hK K
  try simp only [Act.put, List.setIfInBounds_toArray, List.set_cons_zero, List.set_cons_succ]
  ((first | (refine takeG 3 (v := ?_) rfl (by decide +kernel) (by decide +kernel) (by decide +kernel) (fun _ _ _ h => h) (Or.inl ⟨by rfl, ?_⟩) ?_; rotate_left 1; (focus (intro W hW; go_simp; first | done | with_reducible rfl)); try simp only [Act.put, List.setIfInBounds_toArray, List.set_cons_zero, List.set_cons_succ]) | (refine takeG 3 rfl (by decide +kernel) (by decide +kernel) (by decide +kernel) (fun _ _ _ h => h) (Or.inr ⟨by rfl, rfl⟩) ?_; try simp only [Act.put, List.setIfInBounds_toArray, List.set_cons_zero, List.set_cons_succ]) | skip); (first | (refine takeG 4 (v := ?_) rfl (by decide +kernel) (by decide +kernel) (by decide +kernel) (fun _ _ _ h => h) (Or.inl ⟨by rfl, ?_⟩) ?_; rotate_left 1; (focus (intro W hW; go_simp; first | done | with_reducible rfl)); try simp only [Act.put, List.setIfInBounds_toArray, List.set_cons_zero, List.set_cons_succ]) | (refine takeG 4 rfl (by decide +kernel) (by decide +kernel) (by decide +kernel) (fun _ _ _ h => h) (Or.inr ⟨by rfl, rfl⟩) ?_; try simp only [Act.put, List.setIfInBounds_toArray, List.set_cons_zero, List.set_cons_succ]) | skip))
  refine stepG 9 rfl (by decide +kernel) (by rfl) ?_
  intro K hK
  go_simp
  refine (KP.out _ hLh.out).mono ?_
  rintro e w5 ⟨rfl, b5⟩
  refine hK _ _ b5 ?_
  clear hK K
  try simp only [Act.put, List.setIfInBounds_toArray, List.set_cons_zero, List.set_cons_succ]
  refine stepG 14 rfl (by decide +kernel) (by rfl) ?_
  intro K hK
  go_simp
  have hbA := (Below.refl w5.heap.size w5).alloc (Nat.le_refl _) (.cells #[sv [99, 111, 109, 112, 108, 101, 116, 101], sv ds, sv kd] 9)
  have hG := Gr.trans b5 hbA
  have d3 := c3 _ hG
  have hbel := Lib.hid (hBh.out.trans (hG.mono hBh.out.size))
  have hown : (w5.alloc (.cells #[sv [99, 111, 109, 112, 108, 101, 116, 101], sv ds, sv kd] 9)).ownsRow w.heap.size 9 1 (.slice (some ⟨w5.heap.size, 0, none⟩) 3 3) ([[99, 111, 109, 112, 108, 101, 116, 101], ds, kd] : List (List UInt8)).length (([[99, 111, 109, 112, 108, 101, 116, 101], ds, kd] : List (List UInt8)).map sv) := own_base' (ownS_built w5 9 [[99, 111, 109, 112, 108, 101, 116, 101], ds, kd] (by simp)) (Nat.le_trans hBh.out.size b5.size)
  have hownh := Lib.hid hown
  have hle := Lib.hid hbel.out.size
  refine hK _ _ hbA ?_
  clear hK K hbA hG hown
  generalize (w5.alloc (.cells #[sv [99, 111, 109, 112, 108, 101, 116, 101], sv ds, sv kd] 9)) = W3 at hownh hbel hle d3 ⊢
  clear c0 c1 c2 c3 c4 hst hkd hBh hLh b5 KP
  generalize w5.heap.size = bk at hownh ⊢
  try simp only [Act.put, List.setIfInBounds_toArray, List.set_cons_zero, List.set_cons_succ]
  ((first | (refine takeG 15 (v := ?_) rfl (by decide +kernel) (by decide +kernel) (by decide +kernel) (fun _ _ _ h => h) (Or.inl ⟨by rfl, ?_⟩) ?_; rotate_left 1; (focus (intro W hW; go_simp; first | done | with_reducible rfl)); try simp only [Act.put, List.setIfInBounds_toArray, List.set_cons_zero, List.set_cons_succ]) | (refine takeG 15 rfl (by decide +kernel) (by decide +kernel) (by decide +kernel) (fun _ _ _ h => h) (Or.inr ⟨by rfl, rfl⟩) ?_; try simp only [Act.put, List.setIfInBounds_toArray, List.set_cons_zero, List.set_cons_succ]) | skip))
  refine doneG (by kernel_rfl) ?_
  go_wp2_with (at_builtin; refine wpl_appendS1 (w := W3) Tryz.underlying65 Tryz.info9s rfl (.tmp 21) (.tmp 22) rfl w.heap.size (.slice (some ⟨bk, 0, none⟩) 3 3) [[99, 111, 109, 112, 108, 101, 116, 101], ds, kd] rfl hownh.out [108, 111, 119] rfl (by simp) hle.out ?_; intro v' w' hown2 hbel2)
  go_ret
  exact ⟨_, rfl, hown2, hbel.out.trans hbel2⟩

end Go.Proofs.YtfblpakoibadoaaGreatDoor

namespace Go.Proofs.YtfblpakoibadoaaGreatDoor
open Go Go.RowKit

/-- append of a row of strings of the call's own to another. -/
theorem wpl_appendSS {P : Program} {ops : Array Oper} {rest : List Oper} {o : Oper} {a : Act} {Q : Exit → Act → World → Prop} {w : World} {t e : TypeId} (ht : P.underlying t = some (.slice e))
    (hinf : (P.info? e).map (fun i => (i.zero, i.size, i.bytes)) = some (some (.string ByteArray.empty), 1, 16)) (hgd : o.guard = none) (s x : Operand)
    (ho : o.op = .call { callee := .builtin .append, args := #[s, x], argTypes := #[t, t] })
    (base : Nat) (v : Value) (zs : List (List UInt8)) (hs : a.eval s = v) (hown : w.ownsRow base e 1 v zs.length (zs.map sv)) (base2 : Nat) (v2 : Value) (ys : List (List UInt8))
    (hx : a.eval x = v2) (hown2 : w.ownsRow base2 e 1 v2 ys.length (ys.map sv)) (hy : 0 < ys.length) (hyl : ys.length ≤ 1000000) (hl : zs.length ≤ 1000000) (hbase : base ≤ w.heap.size)
    (h : ∀ v' w', w'.ownsRow base e 1 v' (zs ++ ys).length ((zs ++ ys).map sv) → Below base w w' → wpList P ops Q rest (a.put o.dst v') w') :
    wpList P ops Q (o :: rest) a w := by
  obtain ⟨i0, hi, hz0, hz1, hz2⟩ := info_parts hinf
  obtain ⟨_, h2⟩ := hown2
  rcases h2 with ⟨_, hn⟩ | ⟨g, cap, cur, rfl, hg, hh, hle, _, hcs, ht2⟩
  · omega
  · refine wpList_append_own _ hgd s x t ho base e i0 (.string ByteArray.empty) 1 16 ht hi hz0 hz1 hz2 rfl (by decide) v zs.length (zs.map sv) hs hown ⟨g, 0, none⟩ ys.length cap (ys.map sv) hx (by simp) (fun j u hu => ?_)
      (fun z hz => by obtain ⟨y, _, rfl⟩ := List.mem_map.1 hz; rfl) (by unfold maxLen; omega) (by omega) hbase fun v' w' h1 h2 _ => h v' w' (by simpa using h1) ?_
    · have hadd : (⟨g, 0, none⟩ : Addr).add j = ⟨g, j, none⟩ := by unfold Addr.add; split <;> simp_all
      rw [hadd, cell_of_row w g j cur e (0, 0) hh]
      have hj : j < ys.length := by
        have := (List.getElem?_eq_some_iff.1 hu).1
        simpa using this
      have hx2 : (cur.toList.take (ys.length * 1))[j]? = (ys.map sv)[j]? := by rw [ht2]
      rw [hu, List.getElem?_take_of_lt (by omega)] at hx2
      simpa using hx2
    · exact (Below.refl base w).grown h2 hbase fun k hk => (hown.lt k hk).1

theorem split_any (w : World) (hL : Laid w) (h p k : Nat) (c l : Bool) (hh : h < 256) (hp : p < 256) (hk : k < 4) :
    Calls Tryz.prog 66 #[.agg #[.int .u8 (h : Int), .int .u8 (p : Int), .bool c, .bool l, .int .u8 (k : Int)]] w
      (ResW w ([stepL.getD c.toNat [], Lib.decDigits h ++ [46] ++ Lib.decDigits p, kindL.getD k []] ++ (bif l then [[108, 111, 119]] else []))) := by
  cases c <;> cases l
  · exact split_false_false w hL h p k hh hp hk
  · exact split_false_true w hL h p k hh hp hk
  · exact split_true_false w hL h p k hh hp hk
  · exact split_true_true w hL h p k hh hp hk

set_option maxHeartbeats 1600000 in
set_option maxRecDepth 100000 in
theorem words_split (w : World) (hL : Laid w) (r : Rg) (ok : r.Ok) (hk : r.kind < 4) (A : Option Addr) (n c : Nat) (hd : r.data = .slice A n c) (hp : r.pid = 8) (xs : List UInt8) :
    Calls Tryz.prog 33 #[.agg (pcells r)] w (ResW w (wordsL r xs)) := by
  have hw : wordsL r xs = [pidL.getD r.pid []] ++ splitL r := by
    unfold wordsL; rw [if_neg (by omega), if_neg (by omega), if_pos hp]
  have hs3 : 0 < (splitL r).length ∧ (splitL r).length ≤ 4 := by
    unfold splitL; cases r.low <;> simp
  have KP := Lib.hid fun W hLW => split_any W hLW r.hub r.port r.kind r.comp r.low ok.hub ok.port hk
  rw [hw]
  change Hid (∀ W, Laid W → Calls _ _ _ W (ResW W (splitL r))) at KP
  generalize splitL r = zs at KP hs3 ⊢
  obtain ⟨p0, p1, p2, p3, p4, p5, p6, p7, p8, p9, p10⟩ := r
  simp only at hd hp KP
  clear hw ok hk
  subst hd
  subst hp
  simp only [pcells]
  have hbW := (Below.refl w.heap.size w).alloc (Nat.le_refl _) (.cells #[.int .u8 8, .int .u8 (p1 : Int), .int .u8 (p2 : Int), .int .u16 (p3 : Int), .int .u8 (p4 : Int), .int .u8 (p5 : Int), .bool p6, .bool p7, .int .u8 (p8 : Int), .slice A n c] 29)
  have hb2 := Lib.hid (hbW.alloc hbW.size (.cells #[sv [115, 112, 108, 105, 116]] 9))
  have cN : (w.alloc (.cells #[.int .u8 8, .int .u8 (p1 : Int), .int .u8 (p2 : Int), .int .u16 (p3 : Int), .int .u8 (p4 : Int), .int .u8 (p5 : Int), .bool p6, .bool p7, .int .u8 (p8 : Int), .slice A n c] 29)).cell? ⟨0, 8, none⟩ = some (sv [115, 112, 108, 105, 116]) := (hL.below hbW).pid 8 (by decide)
  have hown : ((w.alloc (.cells #[.int .u8 8, .int .u8 (p1 : Int), .int .u8 (p2 : Int), .int .u16 (p3 : Int), .int .u8 (p4 : Int), .int .u8 (p5 : Int), .bool p6, .bool p7, .int .u8 (p8 : Int), .slice A n c] 29)).alloc (.cells #[sv [115, 112, 108, 105, 116]] 9)).ownsRow (w.heap.size + 1) 9 1 (.slice (some ⟨w.heap.size + 1, 0, none⟩) 1 1) ([[115, 112, 108, 105, 116]] : List (List UInt8)).length (([[115, 112, 108, 105, 116]] : List (List UInt8)).map sv) := by
    have h := ownS_built (w.alloc (.cells #[.int .u8 8, .int .u8 (p1 : Int), .int .u8 (p2 : Int), .int .u16 (p3 : Int), .int .u8 (p4 : Int), .int .u8 (p5 : Int), .bool p6, .bool p7, .int .u8 (p8 : Int), .slice A n c] 29)) 9 [[115, 112, 108, 105, 116]] (by decide)
    rw [show (w.alloc (.cells #[.int .u8 8, .int .u8 (p1 : Int), .int .u8 (p2 : Int), .int .u16 (p3 : Int), .int .u8 (p4 : Int), .int .u8 (p5 : Int), .bool p6, .bool p7, .int .u8 (p8 : Int), .slice A n c] 29)).heap.size = w.heap.size + 1 by simp] at h
    exact h
  have hownh := Lib.hid hown
  have hle := Lib.hid (show w.heap.size + 1 ≤ ((w.alloc (.cells #[.int .u8 8, .int .u8 (p1 : Int), .int .u8 (p2 : Int), .int .u16 (p3 : Int), .int .u8 (p4 : Int), .int .u8 (p5 : Int), .bool p6, .bool p7, .int .u8 (p8 : Int), .slice A n c] 29)).alloc (.cells #[sv [115, 112, 108, 105, 116]] 9)).heap.size by simp)
  have hL2 := Lib.hid (hL.below hb2.out)
  have hs3h := Lib.hid hs3
  clear hown hbW hL hs3
  go_enter Tryz.func33, Tryz.ntmps33
  go_wp2_with fail
  have hKC := KP.out ((w.alloc (.cells #[.int .u8 8, .int .u8 (p1 : Int), .int .u8 (p2 : Int), .int .u16 (p3 : Int), .int .u8 (p4 : Int), .int .u8 (p5 : Int), .bool p6, .bool p7, .int .u8 (p8 : Int), .slice A n c] 29)).alloc (.cells #[sv [115, 112, 108, 105, 116]] 9)) hL2.out
  generalize ((w.alloc (.cells #[.int .u8 8, .int .u8 (p1 : Int), .int .u8 (p2 : Int), .int .u16 (p3 : Int), .int .u8 (p4 : Int), .int .u8 (p5 : Int), .bool p6, .bool p7, .int .u8 (p8 : Int), .slice A n c] 29)).alloc (.cells #[sv [115, 112, 108, 105, 116]] 9)) = W2 at hownh hle hb2 hL2 hKC ⊢
  refine hKC.mono ?_
  rintro e w3 ⟨v2, rfl, o3, b3⟩
  have hown3 := own_below' hownh.out b3
  have hle3 := Nat.le_trans hle.out b3.size
  have hb3 := Lib.hid (hb2.out.trans (b3.mono hb2.out.size))
  have o3h := Lib.hid o3
  have hown3h := Lib.hid hown3
  have hle3h := Lib.hid hle3
  clear cN b3 hownh hle hb2 hKC o3 hown3 hle3 KP
  go_wp2_with (at_builtin; refine wpl_appendSS (w := w3) Tryz.underlying65 Tryz.info9s rfl (.tmp 34) (.tmp 37) rfl (w.heap.size + 1) (.slice (some ⟨w.heap.size + 1, 0, none⟩) 1 1) [[115, 112, 108, 105, 116]] rfl hown3h.out _ v2 zs rfl o3h.out hs3h.out.1 (Nat.le_trans hs3h.out.2 (by decide)) (by decide) hle3h.out ?_; intro v' w' hown2 hbel)
  go_ret
  exact ⟨_, rfl, own_base' hown2 (Nat.le_succ _), hb3.out.trans (hbel.mono (Nat.le_succ _))⟩

end Go.Proofs.YtfblpakoibadoaaGreatDoor

namespace Go.Proofs.YtfblpakoibadoaaGreatDoor
open Go Go.RowKit

theorem join_le (m : Nat) (zs : List (List UInt8)) (h : ∀ z ∈ zs, z.length ≤ m) : (Lib.join zs [32]).length ≤ zs.length * (m + 1) := by
  cases zs with
  | nil => simp [Lib.join_nil]
  | cons x xs =>
    rw [Lib.join_cons]
    have ht : (Lib.joinTail [32] xs).length ≤ xs.length * (m + 1) := by
      have hx : ∀ z ∈ xs, z.length ≤ m := fun z hz => h z (List.mem_cons_of_mem _ hz)
      clear h
      induction xs with
      | nil => simp [Lib.joinTail]
      | cons y ys ih =>
        have h1 := hx y List.mem_cons_self
        have h2 := ih fun z hz => hx z (List.mem_cons_of_mem _ hz)
        simp only [Lib.joinTail, List.map_cons, List.flatten_cons, List.length_append, List.length_cons, List.length_nil] at h2 ⊢
        rw [Nat.add_mul]
        omega
    have h1 := h x List.mem_cons_self
    rw [List.length_append, List.length_cons, Nat.add_mul]
    omega

theorem pidL_le (p : Nat) : (pidL.getD p []).length ≤ 5 := by
  by_cases h : p < 16
  · have : ∀ p < 16, (pidL.getD p []).length ≤ 5 := by decide
    exact this p h
  · rw [List.getD_eq_getElem?_getD, List.getElem?_eq_none (by simp only [pidL, List.length_cons, List.length_nil]; omega)]; simp
theorem kindL_le (p : Nat) : (kindL.getD p []).length ≤ 11 := by
  by_cases h : p < 4
  · have : ∀ p < 4, (kindL.getD p []).length ≤ 11 := by decide
    exact this p h
  · rw [List.getD_eq_getElem?_getD, List.getElem?_eq_none (by simp only [kindL, List.length_cons, List.length_nil]; omega)]; simp
theorem wordsL_le (r : Rg) (ok : r.Ok) (xs : List UInt8) (hl : xs.length ≤ 1024) : 0 < (wordsL r xs).length ∧ (wordsL r xs).length ≤ 5 ∧ ∀ z ∈ wordsL r xs, z.length ≤ 2048 := by
  have a1 := digits_le 3 r.addr (Nat.lt_trans ok.addr (by decide))
  have a2 := digits_le 3 r.endp (Nat.lt_trans ok.endp (by decide))
  have a3 := digits_le 5 r.frame (Nat.lt_trans ok.frame (by decide))
  have a4 := digits_le 3 r.hub (Nat.lt_trans ok.hub (by decide))
  have a5 := digits_le 3 r.port (Nat.lt_trans ok.port (by decide))
  have a6 := kindL_le r.kind
  have a7 := pidL_le r.pid
  have a8 := hexL_len xs
  have a9 : (stepL.getD r.comp.toNat []).length ≤ 8 := by cases r.comp <;> decide
  unfold wordsL
  split
  · refine ⟨by simp, by simp, fun z hz => ?_⟩
    simp only [List.mem_append, List.mem_cons, List.not_mem_nil, or_false] at hz
    rcases hz with rfl | rfl
    · omega
    · simp only [List.length_append, List.length_cons, List.length_nil]; omega
  split
  · refine ⟨by simp, by simp, fun z hz => ?_⟩
    simp only [List.mem_append, List.mem_cons, List.not_mem_nil, or_false] at hz
    rcases hz with rfl | rfl <;> omega
  split
  · refine ⟨by simp, by unfold splitL; cases r.low <;> simp, fun z hz => ?_⟩
    unfold splitL at hz
    simp only [List.mem_append, List.mem_cons, List.not_mem_nil, or_false] at hz
    rcases hz with rfl | ((rfl | rfl | rfl) | hz)
    · omega
    · omega
    · simp only [List.length_append, List.length_cons, List.length_nil]; omega
    · omega
    · revert hz
      cases r.low
      · simp
      · intro hz
        have : z = [108, 111, 119] := by simpa using hz
        subst this
        decide
  split
  · refine ⟨by simp, by simp, fun z hz => ?_⟩
    simp only [List.append_nil, List.mem_cons, List.not_mem_nil, or_false] at hz
    subst hz
    omega
  · refine ⟨by simp, by simp, fun z hz => ?_⟩
    simp only [List.mem_append, List.mem_cons, List.not_mem_nil, or_false] at hz
    rcases hz with rfl | rfl <;> omega

theorem words_any (w : World) (hL : Laid w) (r : Rg) (ok : r.Ok) (A : Option Addr) (c : Nat) (xs : List UInt8) (hx : Rd w w.heap.size A c xs) (hl : xs.length ≤ 1024) (hd : r.data = .slice A xs.length c) (hF : Fit r xs) :
    Calls Tryz.prog 33 #[.agg (pcells r)] w (ResW w (wordsL r xs)) := by
  rcases hF with ⟨hp⟩ | ⟨hp⟩ | ⟨hp, _, _, _, _, _, h8⟩ | ⟨hp⟩ | ⟨hp, _, _, _, _, _, _, _, _, h9⟩
  · exact words_tok w hL r ok A _ c hd hp xs
  · exact words_frame w hL r ok A _ c hd hp xs
  · exact words_split w hL r ok h8 A _ c hd hp xs
  · by_cases h0 : xs = []
    · subst h0
      exact words_bare w hL r A c hd (by omega)
    · exact words_data w hL r A c xs hx hl hd hp h0
  · subst h9
    exact words_bare w hL r A c hd (by omega)

theorem text_any (w : World) (hL : Laid w) (r : Rg) (ok : r.Ok) (A : Option Addr) (c : Nat) (xs : List UInt8) (hx : Rd w w.heap.size A c xs) (hd : r.data = .slice A xs.length c) (hE : errR r xs = 0) :
    Calls Tryz.prog 11 #[.agg (pcells r)] w (ResS w (Lib.join (wordsL r xs) [32])) := by
  have hE' := hE
  unfold errR at hE'
  split at hE'
  · rename_i hkf
    split at hE'
    · rename_i hl
      obtain ⟨h1, h2, h3⟩ := wordsL_le r ok xs hl
      have h4 := join_le 2048 _ h3
      have hF := (fit_of_fitB r ok xs hkf.1).1 hkf.2
      refine text_core w hL r ok A c xs hx hd hE _ h1 (by omega) ?_ fun W hLW hRW => words_any W hLW r ok A c xs hRW hl hd hF
      have := Nat.mul_le_mul_right (2048 + 1) h2
      omega
    · cases hE'
  · cases hE'

end Go.Proofs.YtfblpakoibadoaaGreatDoor

