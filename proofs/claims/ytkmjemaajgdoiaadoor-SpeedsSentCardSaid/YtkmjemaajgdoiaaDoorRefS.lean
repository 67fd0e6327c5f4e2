/-
  Helper text: contracts of the reference of layer 4; no statement is proved here.
-/
import Derived.Test.YtkmjemaajgdoiaaDoorLives
namespace Go.Proofs.YtkmjemaajgdoiaaDoor
open Go Go.RowKit

def onesF (_ : Nat) : UInt8 := 255
theorem fill_ones (n : Nat) : fillL n n onesF = List.replicate n 255 := by
  rw [fillL_full]
  apply List.ext_getElem
  · simp
  · intro i h1 h2
    simp [onesF]

set_option maxHeartbeats 800000 in
set_option maxRecDepth 100000 in
theorem refWorst_any (w : World) (n : Nat) (h : n ≤ 1100) : Calls Tryd.prog 6 #[.int .i64 (n : Int)] w (ResZ w (worstN n)) := by
  have hmk := fun W : World => Lv.make_full (n : Int) W (by omega) (by omega)
  rw [show (n : Int).toNat = n from by omega] at hmk
  go_enter Tryd.func6, Tryd.ntmps6
  go_wp2
  clear hmk
  go_loopw [4] (fun i wr => ∃ k : Nat, k ≤ n ∧ i = .int .i64 k ∧ Row wr w.heap.size 5 (fillL n k onesF) ∧ Below w.heap.size w wr) (fun i _ => n - (intOf i).toNat)
  case atStart => exact ⟨0, Nat.zero_le _, rfl, by rw [fillL_zero]; exact Row.made w _ _, (Below.refl _ _).alloc (Nat.le_refl _) _⟩
  case round =>
    obtain ⟨k, hk, rfl, hrow, hb⟩ := hrel
    by_cases hlt : k < n
    · have hc2 := hrow.cell (i := k) (by rw [fillL_len]; exact hlt)
      have hf2 := hrow.frozen k
      have hset := hrow.set k (y := onesF k) (u := .int .u8 255) rfl
      rw [fillL_set] at hset
      generalize (fillL n k onesF).getD k 0 = old at hc2
      have Hset := Lib.hid hset
      clear hset
      go_wp2
      go_roundw
      case rel => exact ⟨k + 1, by omega, by go_num, Hset.out, hb.setCell (Nat.le_refl _) _⟩
      case measure => simp [intOf]; omega
    · have hk9 : k = n := by omega
      subst hk9
      have hrd := hrow.rd (by rw [fillL_len]; omega)
      rw [fill_ones, List.length_replicate] at hrd
      have K := Lib.hid (Lv.refSend_own wr _ _ _ (by exact hrd) (by rw [List.length_replicate]; omega))
      rw [List.length_replicate] at K
      have hso := Lv.sendL_ones k
      generalize Lv.sendL (List.replicate k 255) = ls at K hso
      have Hso := Lib.hid hso
      clear hrow hrd hso
      go_wp2_with fail
      refine K.out.mono ?_
      rintro e w1 ⟨v1, rfl, o1, b1⟩
      obtain ⟨A1, c1, rfl, r1⟩ := Rd.of_own o1
      clear K o1
      go_wp2
      go_ret
      exact ⟨by rw [Hso.out]; rfl, hb.trans (b1.mono hb.size)⟩

/-- The bit times of packets of these numbers of bytes, each with its gap. -/
def sumN (ns : List Nat) : Nat := (ns.map fun n => worstN n + 8).sum
theorem sumN_snoc (ns : List Nat) {k : Nat} (h : k < ns.length) : sumN (ns.take (k + 1)) = sumN (ns.take k) + (worstN (ns.getD k 0) + 8) := by
  have e : ns.take (k + 1) = ns.take k ++ [ns.getD k 0] := by
    rw [List.take_add_one, List.getElem?_eq_getElem h]
    simp [List.getD, List.getElem?_eq_getElem h]
  unfold sumN
  rw [e]
  simp only [List.map_append, List.sum_append, List.map_cons, List.map_nil, List.sum_cons, List.sum_nil, Nat.add_zero]
theorem sumN_le (ns : List Nat) (h : ∀ n ∈ ns, n ≤ 1100) : sumN ns ≤ 20008 * ns.length := by
  unfold sumN
  induction ns with
  | nil => simp
  | cons n ns ih =>
    have h1 := ih fun m hm => h m (List.mem_cons_of_mem _ hm)
    have h2 := worstN_le (n := n) (by have := h n List.mem_cons_self; omega)
    simp only [List.map_cons, List.sum_cons, List.length_cons]
    omega

theorem worst3 : worstN 3 = 39 := rfl
theorem worst4 : worstN 4 = 48 := rfl
theorem worst1 : worstN 1 = 20 := rfl

end Go.Proofs.YtkmjemaajgdoiaaDoor
