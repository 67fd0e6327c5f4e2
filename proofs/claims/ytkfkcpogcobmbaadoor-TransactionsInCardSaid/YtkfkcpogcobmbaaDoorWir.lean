/-
  Helper text: lines that are made; no statement is proved here.
-/
import Derived.Test.YtkfkcpogcobmbaaDoorDo2
namespace Go.Proofs.YtkfkcpogcobmbaaDoor
open Go Go.RowKit

theorem infFault : (Tryd.prog.info? 25).map (fun i => (i.zero, i.size, i.bytes)) = some (some (.int .u8 0), 1, 1) := by kernel_rfl

set_option maxHeartbeats 400000 in
set_option maxRecDepth 100000 in
theorem fclone_any (w : World) (A : Option Addr) (c : Nat) (xs : List UInt8) (hx : Rd w w.heap.size A c xs) (hl : xs.length ≤ 1000000) :
    Calls Tryd.prog 32 #[.slice A xs.length c] w (ResN w xs) := by
  have qT : ∀ (w : World) (a : Option Addr) (n c n' c' : Nat), (binOp .eql 24 (.slice a n c) (.slice none n' c')).run Tryd.prog w = .ok (.bool a.isNone) w := fun w a n c n' c' => Lib.run_eql_slice_nil w _ _ a n c n' c' Tryd.underlying24
  rcases A with _ | ad
  · have h0 : xs = [] := by
      rcases Nat.eq_zero_or_pos xs.length with h0 | h0
      · exact List.eq_nil_of_length_eq_zero h0
      · obtain ⟨b, off, e, _⟩ := hx.cells h0
        cases e
    subst h0
    rw [List.length_nil]
    go_enter Tryd.func32, Tryd.ntmps32
    go_wp2
    go_ret
    exact ⟨none, 0, rfl, RdS.nil _, Below.refl _ _⟩
  · have hown := Lib.hid (show (w.alloc (.cells #[] 25)).ownsRow w.heap.size 25 1 (.slice (some ⟨w.heap.size, 0, none⟩) 0 0) ([] : List UInt8).length (([] : List UInt8).map bv) from own_built w 25 [] (by simp))
    have hx1 := Lib.hid (hx.alloc (Nat.le_refl _) (.cells #[] 25))
    have hl' := Lib.hid hl
    clear hx hl
    go_enter Tryd.func32, Tryd.ntmps32
    go_wp2_with (at_builtin; refine wpl_appendN Tryd.underlying24 infFault rfl (.tmp 5) (.tmp 6) rfl w.heap.size _ [] rfl hown.out _ c (some ad) xs hx1.out rfl (by have := hl'.out; simp; omega) (by simp) ?_; intro v' w' ho hbb)
    go_ret
    obtain ⟨A', c', rfl, hr⟩ := RdS.of_own (xs := [] ++ xs) ho
    simp only [List.nil_append] at hr ⊢
    exact ⟨A', c', rfl, hr, ((Below.refl _ w).alloc (Nat.le_refl _) _).trans hbb⟩

/-- A line is returned. -/
def LinePost (w : World) (fs : List UInt8) (e : Ending) (w' : World) : Prop :=
  ∃ b F, e = .returned (.pointer (some ⟨b, 0, none⟩)) ∧ (lineA w.heap.size b fs).holds F w' ∧ Below w.heap.size w w'
theorem lineA_base {N M b : Nat} {fs : List UInt8} {F : Nat → Prop} {w : World} (h : (lineA M b fs).holds F w) (hN : N ≤ M) : (lineA N b fs).holds F w := ⟨h.1, h.2.1, fun k hk => ⟨Nat.le_trans hN (h.2.2 k hk).1, (h.2.2 k hk).2⟩⟩

set_option maxHeartbeats 400000 in
set_option maxRecDepth 100000 in
theorem newLine_any (w : World) (A : Option Addr) (c : Nat) (xs : List UInt8) (hx : Rd w w.heap.size A c xs) (hl : xs.length ≤ 1000000) :
    Calls Tryd.prog 9 #[.slice A xs.length c] w (LinePost w xs) := by
  have K := Lib.hid (fclone_any w A c xs hx hl)
  clear hx hl
  go_enter Tryd.func9, Tryd.ntmps9
  go_wp2_with fail
  refine K.out.mono ?_
  rintro e y ⟨A1, c1, rfl, hr, hb⟩
  have Hr := Lib.hid hr
  have Hb := Lib.hid hb
  clear hr hb
  go_wp2
  go_ret
  have hbl := (Below.refl y.heap.size y).alloc (Nat.le_refl _) (.cells #[.slice A1 xs.length c1] 31)
  refine ⟨y.heap.size, fun k => w.heap.size ≤ k ∧ k < y.heap.size + 1, rfl, ⟨⟨A1, c1, alloc1 _ _, (Hr.out.below hbl).mono fun k hk => ⟨⟨hk.1, by omega⟩, by omega⟩⟩, ⟨Hb.out.size, by omega⟩, fun k hk => ⟨hk.1, by simpa using hk.2⟩⟩, Hb.out.trans (hbl.mono Hb.out.size)⟩

/-- The faults of a wire as plain data. -/
def m3 (x : UInt8) : UInt8 := x % 3
theorem m3_val (x : UInt8) : Value.int .u8 ((x.toNat : Int) % 3) = bv (m3 x) := by
  unfold m3 bv
  rw [UInt8.toNat_mod]
  rfl
set_option maxHeartbeats 800000 in
set_option maxRecDepth 100000 in
theorem faults_any (w : World) (A : Option Addr) (c : Nat) (xs : List UInt8) (h : Rd w w.heap.size A c xs) (hl : xs.length ≤ 100000) :
    Calls Tryd.prog 21 #[.slice A xs.length c] w (ResO w 25 (xs.map m3)) := by
  go_enter Tryd.func21, Tryd.ntmps21
  go_wp2
  go_loopw [3, 4] (fun u i wr => ∃ (k : Nat), k ≤ xs.length ∧ i = .int .i64 k ∧ wr.ownsRow w.heap.size 25 1 u ((xs.take k).map m3).length (((xs.take k).map m3).map bv) ∧ Below w.heap.size w wr) (fun _ i _ => xs.length - (intOf i).toNat)
  case atStart => exact ⟨0, by omega, rfl, ⟨by simp, .inl ⟨rfl, by simp⟩⟩, Below.refl _ _⟩
  case round =>
    obtain ⟨k, hk, rfl, hown, hb⟩ := hrel
    by_cases hkl : k < xs.length
    · obtain ⟨b, off, hA, hblt, hcell⟩ := (h.below hb).at_ hkl
      subst hA
      have hsn : (xs.take (k + 1)).map m3 = (xs.take k).map m3 ++ [m3 (xs.getD k 0)] := by rw [take_snoc xs hkl, List.map_append]; rfl
      have hzl : ((xs.take k).map m3).length ≤ 100000 := by simp; omega
      generalize (xs.take k).map m3 = zs at hown hsn hzl
      generalize xs.getD k 0 = x at hcell hsn
      have Hv := Lib.hid (m3_val x)
      have hxb := x.toNat_lt
      have Hs := Lib.hid hsn
      have Ho := Lib.hid hown
      have Hb := Lib.hid hb
      have Hz := Lib.hid hzl
      clear hsn hown hb hzl
      rename_i u3 _
      go_wp2_with (at_builtin; refine wpl_append1 Tryd.underlying24 infFault rfl (.tmp 11) (.tmp 17) rfl w.heap.size u3 zs rfl Ho.out (m3 x) _ Hv.out rfl (by have := Hz.out; omega) Hb.out.size ?_; intro v' w1 hown2 hb2)
      go_roundw
      case rel => exact ⟨k + 1, by omega, by go_num, by rw [Hs.out]; exact hown2, Hb.out.trans hb2⟩
      case measure => simp [intOf]; omega
    · have hk9 : k = xs.length := by omega
      subst hk9
      rw [List.take_length] at hown
      have Ho := Lib.hid hown
      have Hb := Lib.hid hb
      clear hown hb
      go_wp2
      go_ret
      exact ⟨_, rfl, Ho.out, Hb.out⟩

set_option maxHeartbeats 400000 in
set_option maxRecDepth 100000 in
theorem wire_any (w : World) (A : Option Addr) (c : Nat) (xs : List UInt8) (hx : Rd w w.heap.size A c xs) (hl : xs.length ≤ 100000) :
    Calls Tryd.prog 16 #[.slice A xs.length c] w (LinePost w (xs.map m3)) := by
  have K := Lib.hid (faults_any w A c xs hx hl)
  have KN := Lib.hid fun (X : World) (A : Option Addr) (c : Nat) (hX : Rd X X.heap.size A c (xs.map m3)) => newLine_any X A c (xs.map m3) hX (by simp; omega)
  clear hx hl
  generalize xs.map m3 = ys at *
  go_enter Tryd.func16, Tryd.ntmps16
  go_wp2_with fail
  refine K.out.mono ?_
  rintro e y ⟨v, rfl, ho, hb⟩
  obtain ⟨A1, c1, rfl, hr⟩ := Rd.of_own ho
  have Hb := Lib.hid hb
  clear hb ho
  go_wp2_with fail
  refine (KN.out y A1 c1 hr).mono ?_
  rintro e z ⟨b, F, rfl, hz, hb2⟩
  have Hf := Lib.hid (And.intro (lineA_base hz Hb.out.size) (Hb.out.trans (hb2.mono Hb.out.size)))
  clear hz hb2 hr
  go_wp2
  go_ret
  exact ⟨b, F, rfl, Hf.out.1, Hf.out.2⟩

end Go.Proofs.YtkfkcpogcobmbaaDoor
