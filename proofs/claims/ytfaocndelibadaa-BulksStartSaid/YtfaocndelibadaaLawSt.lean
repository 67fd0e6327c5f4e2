/-
  Helper text: BulksStart's law, for any plan; no statement is proved here.
-/
import Derived.Test.YtfaocndelibadaaLawStart
import Derived.Test.YtfaocndelibadaaLawOut
import Derived.Test.YtfaocndelibadaaLawErrA
namespace Go.Proofs.Ytfaocndelibadaa
open Go Go.RowKit Go.Shelf

theorem okP_big {inn : Bool} {endp : Nat} {max : Int} {n m : Nat} {zero : Bool} {len : Int} (h : 1 ≤ n) (h' : 1 ≤ m) : okP inn endp max n zero len = okP inn endp max m zero len := by
  cases inn with
  | false => rfl
  | true =>
    have e1 : decide (n = 0) = false := decide_eq_false (by omega)
    have e2 : decide (m = 0) = false := decide_eq_false (by omega)
    simp [okP, e1, e2]
theorem okP_range {inn : Bool} {endp : Nat} {max : Int} {n : Nat} {zero : Bool} {len : Int} (h : okP inn endp max n zero len = true) : 1 ≤ max ∧ max ≤ 1024 := by
  simp [okP] at h
  omega
theorem okP_in {endp : Nat} {max : Int} {n : Nat} {zero : Bool} {len : Int} (h : okP true endp max n zero len = true) : n = 0 ∧ zero = false ∧ 0 ≤ len := by
  simp [okP] at h
  exact ⟨h.2.1, h.2.2.1, h.2.2.2⟩
theorem okP_out {endp : Nat} {max : Int} {n : Nat} {zero : Bool} {len : Int} (h : okP false endp max n zero len = true) : len = 0 := by
  simp [okP] at h
  exact h.2

theorem law_any (w : World) (inn : Bool) (endp : Nat) (max : Int) (tog : Bool) (A : Option Addr) (c : Nat) (xs : List UInt8) (zero : Bool) (len : Int) (more : Nat) (hmb : more < 65536) (hr : Rd w w.heap.size A c xs) :
    Calls Try.prog 5 #[planV inn endp max tog A xs.length c zero len, .int .u16 more] w fun r w' => r = .returned (.bool true) ∧ Below w.heap.size w w' := by
  by_cases h : 300 < (xs.length : Int)
  · exact law_long w inn endp max tog A xs.length c zero len more h
  by_cases hm : (more : Int) % 8 = 0
  · cases hv : okP inn endp max 65400 zero len with
    | false => exact law_errA w inn endp max tog A c xs zero len more hmb hr h hm fun n hn => (okP_big (by omega) (by omega)).trans hv
    | true =>
      have hv' : ∀ n, 65400 ≤ n → okP inn endp max n zero len = true := fun n hn => (okP_big (by omega) (by omega)).trans hv
      by_cases hlim : 65536 < 65400 + (more / 8) % 300 + xs.length
      · exact law_limA w inn endp max tog A c xs zero len more hmb hr h hm hv' hlim
      · cases inn with
        | true => have := (okP_in hv).1; omega
        | false =>
          obtain rfl := okP_out hv
          have hx := okP_range hv
          obtain ⟨mm, rfl⟩ : ∃ mm : Nat, max = mm := ⟨max.toNat, by omega⟩
          exact law_outA w endp mm tog A c xs zero more hmb hr h hm hv' (by omega) (by omega) (by omega)
  · cases hv : okP inn endp max xs.length zero len with
    | false => exact law_err w inn endp max tog A xs.length c zero len more h hm hv
    | true =>
      have hx := okP_range hv
      by_cases hl : 65536 < len
      · exact law_lim w inn endp max tog A xs.length c zero len more h hm hv hl
      · cases inn with
        | true =>
          obtain ⟨h0, rfl, h1⟩ := okP_in hv
          by_cases hl0 : len = 0
          · subst hl0
            exact law_over w endp max tog A xs.length c more h hm hv (by omega)
          · exact law_in w endp max tog A xs.length c len more h hm hv (by omega) hl0 hl
        | false =>
          obtain rfl := okP_out hv
          obtain ⟨mm, rfl⟩ : ∃ mm : Nat, max = mm := ⟨max.toNat, by omega⟩
          exact law_out w endp mm tog A c xs zero more hr h hm hv (by omega) (by omega)
end Go.Proofs.Ytfaocndelibadaa
