/-
  The law LevelsLine is walked for any packets, and its argument is opened: a struct of a slice of slices, a slice and three numbers; no statement is proved here.
-/
import Derived.Test.YtbeghnpdmcmdmaaDoorLineE
import Derived.Test.YtbeghnpdmcmdmaaDoorRow
import Derived.Deep.Slices
import Derived.Lib.SmallJoins
namespace Go.Proofs.YtbeghnpdmcmdmaaDoor
open Go Go.ChangeShapes Go.WideShapes Go.ChangeAt Go.RowKit Go.Joins Go.Deep

set_option maxHeartbeats 1000000 in
set_option maxRecDepth 100000 in
theorem lawLine_any (w : World) (hL : Laid w) (AP AI : Option Addr) (cP cI : Nat) (ps : List (List UInt8)) (zs : List UInt8) (hP : Rds w w.heap.size AP cP ps) (hI : Rd w w.heap.size AI cI zs) (m n : Nat) (hm : m < 65536) (hn : n < 65536) (t : UInt8) :
    Calls Tryd.prog 9 #[.agg #[.slice AP ps.length cP, .slice AI zs.length cI, .int .u16 (m : Int), .int .u16 (n : Int), bv t]] w (ResB w true) := by
  rcases Nat.lt_or_ge 8 ps.length with hx | hx
  · have t1 : (8 : Int) < (ps.length : Int) := by omega
    have hb0 := (Below.refl w.heap.size w).alloc (Nat.le_refl _) (.cells #[.slice AP ps.length cP, .slice AI zs.length cI, .int .u16 (m : Int), .int .u16 (n : Int), bv t] 47)
    go_enter Tryd.func9, Tryd.ntmps9
    go_wp2
    go_ret
    exact ⟨rfl, hb0⟩
  · exact lawLine_in w hL AP AI cP cI ps zs hP hI hx m n hm hn t

section
variable {H : Type} {enc : TypeId × Value → H} {W : World}

theorem open_bytes {v : Value} {fuel : Nat} {y : DataW H × List MemPlace} (h : DataW.trod enc Tryd.prog W 0 (fun _ => true) true fuel 22 [v] = some y) : ∃ (A : Option Addr) (c : Nat) (xs : List UInt8), v = .slice A xs.length c ∧ Rd W W.heap.size A c xs := by
  rcases open_ints Tryd.underlying22 Tryd.underlying5 (by kernel_rfl) h with ⟨hcs, _⟩ | ⟨x, l, c, zs, hcs, _, hl, hm, hz, _, hcell, hwz⟩
  · simp at hcs
    exact ⟨none, 0, [], hcs, rd_none W⟩
  · simp at hcs
    obtain ⟨xs, e, hr⟩ := rd_some hl hm (by simpa using hz) hcell hwz
    subst e
    exact ⟨_, _, xs, hcs, hr⟩
theorem open_rows {v : Value} {fuel : Nat} {y : DataW H × List MemPlace} (h : DataW.trod enc Tryd.prog W 0 (fun _ => true) true fuel 45 [v] = some y) : ∃ (A : Option Addr) (c : Nat) (ps : List (List UInt8)), v = .slice A ps.length c ∧ Rds W W.heap.size A c ps := by
  rcases open_slice1 Tryd.underlying45 (by kernel_rfl) h with ⟨hcs, _⟩ | ⟨a, len, cap, m, n, V, D, Pl, hcs, _, hl, hm, hmm, _, hx⟩
  · simp at hcs
    exact ⟨none, 0, [], hcs, ⟨Nat.le_refl _, by omega, fun h => absurd h (by simp)⟩⟩
  · simp at hcs hmm
    subst hmm
    have each : ∀ i, i < len → ∃ p : Option Addr × Nat × List UInt8, V i = .slice p.1 p.2.2.length p.2.1 ∧ Rd W W.heap.size p.1 p.2.1 p.2.2 := fun i hi => by
      obtain ⟨A, c, xs, h1, h2⟩ := open_bytes (hx i (by omega)).2
      exact ⟨(A, c, xs), h1, h2⟩
    obtain ⟨p, hp⟩ := choose_lt each
    have hlen : ((List.range len).map fun i => (p i).2.2).length = len := by simp
    refine ⟨some a, _, (List.range len).map fun i => (p i).2.2, by rw [hlen]; exact hcs, by rw [hlen]; exact hl, by simpa [maxLen] using hm, fun hn => ?_⟩
    rw [hlen] at hn
    have hc0 := (hx 0 (by omega)).1
    obtain ⟨b, off, sp⟩ := a
    obtain rfl : sp = none := by simpa [Addr.add] using World.cell?_spot hc0
    refine ⟨b, off, rfl, World.block_lt_of_cell? _ _ hc0, fun j hj => ?_⟩
    rw [hlen] at hj
    obtain ⟨h1, h2⟩ := hp j hj
    have hg : ((List.range len).map fun i => (p i).2.2).getD j [] = (p j).2.2 := by simp [List.getD, hj]
    rw [hg]
    refine ⟨(p j).1, (p j).2.1, ?_, h2⟩
    have := (hx j (by omega)).1
    rw [Go.WideShapes.add_plain, h1] at this
    exact this
theorem array5 {cs : Array Value} (h : cs.size = 5) : ∃ c0 c1 c2 c3 c4, cs = #[c0, c1, c2, c3, c4] := by
  obtain ⟨l⟩ := cs
  match l, h with
  | [a, b, c, d, e], _ => exact ⟨a, b, c, d, e, rfl⟩
theorem open_L {base : Nat} {v : Value} {d : DataW H} {p : List MemPlace} (hv : Value.okWide Tryd.prog W .any base 47 v) (h : DataW.Trod enc Tryd.prog W 0 (fun _ => true) true 47 v d p) :
    ∃ (AP AI : Option Addr) (cP cI : Nat) (ps : List (List UInt8)) (zs : List UInt8) (m n : Nat) (t : UInt8), v = .agg #[.slice AP ps.length cP, .slice AI zs.length cI, .int .u16 (m : Int), .int .u16 (n : Int), bv t] ∧
      Rds W W.heap.size AP cP ps ∧ Rd W W.heap.size AI cI zs ∧ m < 65536 ∧ n < 65536 := by
  obtain ⟨cs, rfl, hsz⟩ := okWide_struct Tryd.underlying47 hv
  obtain ⟨c0, c1, c2, c3, c4, rfl⟩ := array5 (hsz.trans (by kernel_rfl))
  obtain ⟨fuel, hf⟩ := h
  obtain ⟨xs, k, _, _, _, hlen, hx⟩ := DataW.trod_struct Tryd.underlying47 hf
  have hlen : xs.length = 5 := hlen
  have e0 := hx 0 _ rfl
  have e1 := hx 1 _ rfl
  have e2 := hx 2 _ rfl
  have e3 := hx 3 _ rfl
  have e4 := hx 4 _ rfl
  rw [List.getElem?_eq_getElem (by omega)] at e0 e1 e2 e3 e4
  have g0 : DataW.trod enc Tryd.prog W 0 (fun _ => true) true k 45 [c0] = some _ := e0
  have g1 : DataW.trod enc Tryd.prog W 0 (fun _ => true) true k 22 [c1] = some _ := e1
  have g2 : DataW.trod enc Tryd.prog W 0 (fun _ => true) true k 39 [c2] = some _ := e2
  have g3 : DataW.trod enc Tryd.prog W 0 (fun _ => true) true k 39 [c3] = some _ := e3
  have g4 : DataW.trod enc Tryd.prog W 0 (fun _ => true) true k 5 [c4] = some _ := e4
  obtain ⟨AP, cP, ps, rfl, hP⟩ := open_rows g0
  obtain ⟨AI, cI, zs, rfl, hI⟩ := open_bytes g1
  obtain ⟨m, hm, _, wm⟩ := DataW.trod_int Tryd.underlying39 g2
  obtain ⟨n, hn, _, wn⟩ := DataW.trod_int Tryd.underlying39 g3
  obtain ⟨t, ht, _, wt⟩ := DataW.trod_int Tryd.underlying5 g4
  obtain rfl : c2 = _ := by simpa using hm
  obtain rfl : c3 = _ := by simpa using hn
  obtain rfl : c4 = _ := by simpa using ht
  have b2 := bounds_u16 wm
  have b3 := bounds_u16 wn
  have b4 := bounds_u8 wt
  obtain ⟨m, rfl⟩ := Int.eq_ofNat_of_zero_le b2.1
  obtain ⟨n, rfl⟩ := Int.eq_ofNat_of_zero_le b3.1
  obtain ⟨t, rfl⟩ := Int.eq_ofNat_of_zero_le b4.1
  refine ⟨AP, AI, cP, cI, ps, zs, m, n, UInt8.ofNat t, ?_, hP, hI, by omega, by omega⟩
  rw [show bv (UInt8.ofNat t) = Value.int .u8 (t : Int) from by show Value.int .u8 _ = _; rw [UInt8.toNat_ofNat', Nat.mod_eq_of_lt (by omega)]]
end

end Go.Proofs.YtbeghnpdmcmdmaaDoor
