/-
  Helper text: the law ChecksLong for all lengths, and its struct argument opened; no statement is proved here.
-/
import Derived.Test.YtfpfadenfoehfaaDoorLawLong
import Derived.Test.YtfpfadenfoehfaaDoorOpenS
namespace Go.Proofs.YtfpfadenfoehfaaDoor
open Go Go.ChangeShapes Go.WideShapes Go.ChangeAt Go.RowKit Go.Joins Go.Deep

set_option maxHeartbeats 1600000 in
set_option maxRecDepth 100000 in
theorem lawLong_skip (w : World) (A AA : Option Addr) (c cc m n : Nat) (t Bu : Nat) (ht : t < 256) (hm : m ≤ 9223372036854775807) (h : 60 < m ∨ 1024 < t * m ∨ 31 < n) :
    Calls Tryd.prog 7 #[.slice A m c, .int .u8 (t : Int), .agg #[.slice AA n cc, .int .u16 (Bu : Int)]] w (ResB w true) := by
  have hb0 := (Below.refl w.heap.size w).alloc (Nat.le_refl _) (.cells #[.slice AA n cc, .int .u16 (Bu : Int)] 47)
  by_cases h1 : 60 < m
  · have t1 : (60 : Int) < (m : Int) := by omega
    go_enter Tryd.func7, Tryd.ntmps7
    go_wp2
    go_ret
    exact ⟨rfl, hb0⟩
  · have t1 : ¬ (60 : Int) < (m : Int) := by omega
    have t2 : (m : Int) * (t : Int) = ((t * m : Nat) : Int) := by rw [Int.natCast_mul, Int.mul_comm]
    have hP : t * m ≤ 255 * 60 := Nat.mul_le_mul (by omega) (by omega)
    generalize t * m = P at t2 h hP
    by_cases h2 : 1024 < P
    · have t3 : (1024 : Int) < (P : Int) := by omega
      go_enter Tryd.func7, Tryd.ntmps7
      go_wp2
      go_ret
      exact ⟨rfl, hb0⟩
    · have t3 : ¬ (1024 : Int) < (P : Int) := by omega
      have t4 : (31 : Int) < (n : Int) := by omega
      go_enter Tryd.func7, Tryd.ntmps7
      go_wp2
      go_ret
      exact ⟨rfl, hb0⟩
theorem lawLong_any (w : World) (hL : Laid w) (A AA : Option Addr) (c cc : Nat) (xs : List UInt8) (ns : List Nat) (h : Rd w w.heap.size A c xs) (hA : Rd16 w w.heap.size AA cc ns) (t Bu : Nat) (ht : t < 256) (hBu : Bu < 65536) :
    Calls Tryd.prog 7 #[.slice A xs.length c, .int .u8 (t : Int), .agg #[.slice AA ns.length cc, .int .u16 (Bu : Int)]] w (ResB w true) := by
  by_cases hs : 60 < xs.length ∨ 1024 < t * xs.length ∨ 31 < ns.length
  · exact lawLong_skip w A AA c cc xs.length ns.length t Bu ht (by have := h.le; have := h.cap; omega) hs
  · exact lawLong_in w hL A AA c cc xs ns h hA t Bu ht hBu (by omega) (by omega) (by omega)

section
variable {H : Type} {enc : TypeId × Value → H} {W : World}
theorem array2 {cs : Array Value} (h : cs.size = 2) : ∃ c0 c1, cs = #[c0, c1] := by
  obtain ⟨l⟩ := cs
  match l, h with
  | [a, b], _ => exact ⟨a, b, rfl⟩
theorem rd16_some {W : World} {x : Addr} {len cap : Nat} {zs : List Int} (hl : len ≤ cap) (hz : zs.length = cap)
    (hcell : ∀ i, i < zs.length → W.cell? (x.add i) = some (.int .u16 (zs.getD i 0))) (hwz : ∀ n ∈ zs, (Lit.int .u16 n).wf = true) : ∃ ns : List Nat, len = ns.length ∧ Rd16 W W.heap.size (some x) cap ns := by
  have hlen : ((zs.take len).map Int.toNat).length = len := by rw [List.length_map, List.length_take]; omega
  have hget : ∀ j, j < len → ((zs.take len).map Int.toNat).getD j 0 = (zs.getD j 0).toNat ∧ 0 ≤ zs.getD j 0 ∧ zs.getD j 0 ≤ 65535 := fun j hj => by
    have hj2 : j < zs.length := by omega
    have hb := bounds_u16 (hwz zs[j] (List.getElem_mem hj2))
    have e : ((zs.take len).map Int.toNat).getD j 0 = zs[j].toNat := by simp [List.getD, List.getElem?_take, hj, List.getElem?_eq_getElem hj2]
    rw [e, show zs.getD j 0 = zs[j] by simp [List.getD, List.getElem?_eq_getElem hj2]]
    exact ⟨rfl, hb⟩
  refine ⟨(zs.take len).map Int.toNat, hlen.symm, by rw [hlen]; exact hl, fun hn => ?_, fun j => ?_⟩
  · rw [hlen] at hn
    obtain ⟨b, off, rfl, hc⟩ := ints_at hcell (by omega)
    refine ⟨b, off, rfl, World.block_lt_of_cell? _ _ (hc 0 (by omega)), fun j hj => ?_⟩
    rw [hlen] at hj
    obtain ⟨h1, h2, h3⟩ := hget j hj
    rw [hc j (by omega), h1, Int.toNat_of_nonneg h2]
  · rcases Nat.lt_or_ge j len with hj | hj
    · obtain ⟨h1, h2, h3⟩ := hget j hj
      rw [h1]; omega
    · rw [List.getD_eq_getElem?_getD, List.getElem?_eq_none (by rw [hlen]; exact hj)]; decide
theorem open_words {v : Value} {fuel : Nat} {y : DataW H × List MemPlace} (h : DataW.trod enc Tryd.prog W 0 (fun _ => true) true fuel 45 [v] = some y) : ∃ (A : Option Addr) (c : Nat) (ns : List Nat), v = .slice A ns.length c ∧ Rd16 W W.heap.size A c ns := by
  rcases open_ints Tryd.underlying45 Tryd.underlying38 (by kernel_rfl) h with ⟨hcs, _⟩ | ⟨x, l, c, zs, hcs, _, hl, hm, hz, _, hcell, hwz⟩
  · simp at hcs
    exact ⟨none, 0, [], hcs, Nat.le_refl _, fun h => absurd h (by simp), fun j => by simp [List.getD]⟩
  · simp at hcs
    obtain ⟨ns, e, hr⟩ := rd16_some hl (by simpa using hz) hcell hwz
    subst e
    exact ⟨_, _, ns, hcs, hr⟩
theorem open_X {base : Nat} {v : Value} {d : DataW H} {p : List MemPlace} (hv : Value.okWide Tryd.prog W .any base 47 v) (h : DataW.Trod enc Tryd.prog W 0 (fun _ => true) true 47 v d p) :
    ∃ (AA : Option Addr) (cc : Nat) (ns : List Nat) (Bu : Nat), v = .agg #[.slice AA ns.length cc, .int .u16 (Bu : Int)] ∧ Rd16 W W.heap.size AA cc ns ∧ Bu < 65536 := by
  obtain ⟨cs, rfl, hsz⟩ := okWide_struct Tryd.underlying47 hv
  obtain ⟨c0, c1, rfl⟩ := array2 (hsz.trans (by kernel_rfl))
  obtain ⟨fuel, hf⟩ := h
  obtain ⟨xs, k, _, _, _, hlen, hx⟩ := DataW.trod_struct Tryd.underlying47 hf
  have hlen : xs.length = 2 := hlen
  have e0 := hx 0 _ rfl
  have e1 := hx 1 _ rfl
  rw [List.getElem?_eq_getElem (by omega)] at e0 e1
  have g0 : DataW.trod enc Tryd.prog W 0 (fun _ => true) true k 45 [c0] = some _ := e0
  have g1 : DataW.trod enc Tryd.prog W 0 (fun _ => true) true k 38 [c1] = some _ := e1
  obtain ⟨AA, cc, ns, rfl, hA⟩ := open_words g0
  obtain ⟨Bu, rfl, hB⟩ := open_u16 g1
  exact ⟨AA, cc, ns, Bu, rfl, hA, hB⟩
end

end Go.Proofs.YtfpfadenfoehfaaDoor
