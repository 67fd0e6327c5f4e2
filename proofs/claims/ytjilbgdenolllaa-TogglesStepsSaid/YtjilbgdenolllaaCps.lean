/-
  Helper text: copies of packets in new memory; no statement is proved here.
-/
import Derived.Test.YtjilbgdenolllaaPk
namespace Go.Proofs.Ytjilbgdenolllaa
open Go Go.RowKit

/-- A new row of bytes is returned. -/
def ResN (w : World) (xs : List UInt8) (e : Ending) (w' : World) : Prop :=
  ∃ q, e = .returned (.slice (some ⟨q, 0, none⟩) xs.length xs.length) ∧ w.heap.size ≤ q ∧ Row w' q 5 xs ∧ Below w.heap.size w w'

/-- copy into a row of the call's own. -/
theorem wpl_copy {P : Program} {w : World} {ops : Array Oper} {rest : List Oper} {o : Oper} {a : Act} {Q : Exit → Act → World → Prop} (hgd : o.guard = none) (d s : Operand) (dT sT elem : TypeId)
    (ho : o.op = .call { callee := .builtin .copy, args := #[d, s], argTypes := #[dT, sT] }) (hu : P.underlying dT = some (.slice elem)) (hsz : (P.info? elem).map (fun i => (i.zero, i.size, i.bytes)) = some (some (.int .u8 0), 1, 1))
    (g t dc : Nat) (A : Option Addr) (B c : Nat) (xs : List UInt8) (hrow : Row w g t (List.replicate xs.length 0)) (hd : a.eval d = .slice (some ⟨g, 0, none⟩) xs.length dc) (hr : Rd w B A c xs) (hs : a.eval s = .slice A xs.length c)
    (B0 : Nat) (w0 : World) (hb : Below B0 w0 w) (hBg : B0 ≤ g)
    (h : ∀ w', Hid (Row w' g t xs) → Below B0 w0 w' → wpList P ops Q rest (a.put o.dst (goInt xs.length)) w') : wpList P ops Q (o :: rest) a w := by
  obtain ⟨i0, hi, _, hz1, _⟩ := info_parts hsz
  have hlen : (xs.map bv).length = Nat.min xs.length xs.length := by rw [List.length_map]; exact (Nat.min_self _).symm
  refine wpList_copy_splice hgd d s dT sT ho elem hu (by rw [hi]; exact congrArg some hz1) (some ⟨g, 0, none⟩) A xs.length dc xs.length c hd hs g 0 ((List.replicate xs.length (0 : UInt8)).map bv) t hrow (xs.map bv) hlen ?_ ?_ ?_ B0 w0 hb hBg ?_
  · intro hpos
    rw [List.length_map] at hpos
    obtain ⟨b, off, rfl, _, hc⟩ := hr.cells hpos
    refine ⟨rfl, _, rfl, fun j v hj => ?_⟩
    rw [List.getElem?_map] at hj
    rcases Nat.lt_or_ge j xs.length with hl | hl
    · rw [Go.WideShapes.add_plain, hc j hl]
      rw [List.getElem?_eq_getElem hl] at hj
      simpa [List.getD, List.getElem?_eq_getElem hl] using hj
    · rw [List.getElem?_eq_none hl] at hj
      cases hj
  · simp
  · intro v hv
    obtain ⟨_, _, rfl⟩ := List.mem_map.1 hv
    rfl
  · intro w' hH hb'
    rw [List.length_map]
    refine h w' ?_ hb'
    have e : splice ((List.replicate xs.length (0 : UInt8)).map bv) 0 (xs.map bv) = xs.map bv := by
      unfold splice
      simp
    have hH2 : w'.heap[g]? = some (.cells (splice ((List.replicate xs.length (0 : UInt8)).map bv) 0 (xs.map bv)).toArray t (0, 0)) := hH
    rw [e] at hH2
    exact hH2

set_option maxHeartbeats 400000 in
set_option maxRecDepth 100000 in
theorem copied_any (w : World) (A : Option Addr) (c : Nat) (xs : List UInt8) (h : Rd w w.heap.size A c xs) (hl : xs.length ≤ 100000) :
    Calls Try.prog 23 #[.slice A xs.length c] w (ResN w xs) := by
  have hmk := fun W : World => make_full (xs.length : Int) W (by omega) (by omega)
  rw [show (xs.length : Int).toNat = xs.length from by omega] at hmk
  have hrow := Row.made w xs.length 5
  have hb := (Below.refl w.heap.size w).alloc (Nat.le_refl _) (.cells (madeCells #[.int .u8 0] xs.length) 5)
  have hr := h.below hb
  go_enter Try.func23, Try.ntmps23
  go_wp2_with (with_reducible refine wpl_copy rfl _ _ _ _ 5 rfl Try.underlying26 Try.info5 w.heap.size 5 xs.length A w.heap.size c xs hrow rfl hr rfl w.heap.size w hb (Nat.le_refl _) ?_; intro w3 hrow3 hb3)
  go_ret
  exact ⟨_, rfl, Nat.le_refl _, hrow3.out, hb3⟩

/-- A new row of headers is returned. -/
def ResH (w : World) (ps : List (List UInt8)) (e : Ending) (w' : World) : Prop :=
  ∃ g, e = .returned (.slice (some ⟨g, 0, none⟩) ps.length ps.length) ∧ Hdrs w w' g ps ∧ Below w.heap.size w w'

theorem Rds.heads {w : World} {A : Option Addr} {c : Nat} {ps : List (List UInt8)} (h : Rds w w.heap.size A c ps) :
    ∃ vs : List Value, vs.length = ps.length ∧ (∀ v ∈ vs, v.oneCell' = true) ∧ (∀ j, j < ps.length → ∃ A c, vs[j]? = some (.slice A (ps.getD j []).length c) ∧ Rd w w.heap.size A c (ps.getD j [])) ∧
      (0 < vs.length → ∃ b off, A = some ⟨b, off, none⟩ ∧ b < w.heap.size ∧ ∀ j v, vs[j]? = some v → w.cell? ⟨b, off + j, none⟩ = some v) := by
  rcases Nat.eq_zero_or_pos ps.length with h0 | h0
  · exact ⟨[], by rw [h0]; rfl, by simp, fun j hj => absurd hj (by omega), by simp⟩
  · obtain ⟨b, off, rfl, hb, hc⟩ := h.cells h0
    have hget : ∀ j : Nat, j < ps.length → ∃ v A' c', v = Value.slice A' (ps.getD j []).length c' ∧ w.cell? ⟨b, off + j, none⟩ = some v ∧ Rd w w.heap.size A' c' (ps.getD j []) := fun j hj => by
      obtain ⟨A', c', h1, h2⟩ := hc j hj
      exact ⟨_, A', c', rfl, h1, h2⟩
    have hat : ∀ j : Nat, j < ps.length → ((List.range ps.length).map fun j => (w.cell? ⟨b, off + j, none⟩).getD (.slice none 0 0))[j]? = w.cell? ⟨b, off + j, none⟩ := fun j hj => by
      obtain ⟨v, _, _, rfl, h1, _⟩ := hget j hj
      simp [List.getElem?_map, List.getElem?_range hj, h1]
    refine ⟨(List.range ps.length).map fun j => (w.cell? ⟨b, off + j, none⟩).getD (.slice none 0 0), by simp, fun v hv => ?_, fun j hj => ?_, fun _ => ⟨b, off, rfl, hb, fun j v hj => ?_⟩⟩
    · obtain ⟨j, hj, rfl⟩ := List.mem_map.1 hv
      obtain ⟨v, _, _, rfl, h1, _⟩ := hget j (by simpa using hj)
      rw [h1]
      rfl
    · obtain ⟨v, A', c', rfl, h1, h2⟩ := hget j hj
      exact ⟨A', c', by rw [hat j hj, h1], h2⟩
    · rcases Nat.lt_or_ge j ps.length with hl | hl
      · rw [← hat j hl]; exact hj
      · rw [List.getElem?_eq_none (by simpa using hl)] at hj
        cases hj

theorem made_eq (n : Nat) : madeCells #[.slice none 0 0] n = (List.replicate n (Value.slice none 0 0)).toArray := by
  apply Array.ext
  · simp [size_madeCells]
  · intro i h1 h2
    simp [madeCells, Nat.mod_one]

set_option maxHeartbeats 400000 in
set_option maxRecDepth 100000 in
theorem copiedP_any (w : World) (A : Option Addr) (c : Nat) (ps : List (List UInt8)) (h : Rds w w.heap.size A c ps) (hl : ps.length ≤ 100000) :
    Calls Try.prog 33 #[.slice A ps.length c] w (ResH w ps) := by
  have hmk := fun W : World => makeP_full (ps.length : Int) W (by omega) (by omega)
  rw [show (ps.length : Int).toNat = ps.length from by omega] at hmk
  have hb := (Below.refl w.heap.size w).alloc (Nat.le_refl _) (.cells (madeCells #[.slice none 0 0] ps.length) 26)
  have hrow : (w.alloc (.cells (madeCells #[.slice none 0 0] ps.length) 26)).heap[w.heap.size]? = some (.cells (List.replicate ps.length (Value.slice none 0 0)).toArray 26 (0, 0)) := by
    rw [← made_eq]; exact heap_alloc_new w _
  obtain ⟨vs, hvl, hv1, hvs, hsrc⟩ := h.heads
  have hn : vs.length = Nat.min ps.length ps.length := by rw [hvl]; exact (Nat.min_self _).symm
  have hpos : 0 < vs.length → (some (⟨w.heap.size, 0, none⟩ : Addr)) = some ⟨w.heap.size, 0, none⟩ ∧ ∃ ad, A = some ad ∧ ∀ j v, vs[j]? = some v → (w.alloc (.cells (madeCells #[.slice none 0 0] ps.length) 26)).cell? (ad.add j) = some v := fun h0 => by
    obtain ⟨b, off, rfl, hlt, hc⟩ := hsrc h0
    exact ⟨rfl, _, rfl, fun j v hj => by rw [Go.WideShapes.add_plain]; exact (hb.cell (p := ⟨b, off + j, none⟩) hlt).trans (hc j v hj)⟩
  have hfit : 0 + vs.length ≤ (List.replicate ps.length (Value.slice none 0 0)).length := by simp [hvl]
  have Hvl := Lib.hid hvl
  have Hv1 := Lib.hid hv1
  have Hvs := Lib.hid hvs
  have Hpos := Lib.hid hpos
  have Hn := Lib.hid hn
  have Hrow := Lib.hid hrow
  clear hvl hv1 hvs hsrc hn hpos hrow
  go_enter Try.func33, Try.ntmps33
  go_wp2_with (with_reducible refine wpList_copy_splice rfl _ _ 22 22 rfl 26 Try.underlying22 (by kernel_rfl) (some ⟨w.heap.size, 0, none⟩) A ps.length ps.length ps.length c rfl rfl w.heap.size 0 (List.replicate ps.length (Value.slice none 0 0)) 26 Hrow.out vs Hn.out Hpos.out hfit Hv1.out w.heap.size w hb (Nat.le_refl _) ?_; intro w3 hrow3 hb3)
  go_ret
  have hH2 : w3.heap[w.heap.size]? = some (.cells (splice (List.replicate ps.length (Value.slice none 0 0)) 0 vs).toArray 26 (0, 0)) := hrow3
  have e : splice (List.replicate ps.length (Value.slice none 0 0)) 0 vs = vs := by
    unfold splice
    rw [Hvl.out]
    simp
  rw [e] at hH2
  exact ⟨_, rfl, ⟨Nat.le_refl _, vs, hH2, Hvl.out, Hvs.out⟩, hb3⟩

/-- A new list of packets is returned. -/
def ResP (w : World) (ps : List (List UInt8)) (e : Ending) (w' : World) : Prop :=
  ∃ g, e = .returned (.slice (some ⟨g, 0, none⟩) ps.length ps.length) ∧ News w' w.heap.size g ps ∧ Below w.heap.size w w'

set_option maxHeartbeats 800000 in
set_option maxRecDepth 100000 in
theorem copies_any (w : World) (A : Option Addr) (c : Nat) (ps : List (List UInt8)) (h : Rds w w.heap.size A c ps) (hs : Sml ps) :
    Calls Try.prog 29 #[.slice A ps.length c] w (ResP w ps) := by
  have hl := hs.1
  go_enter Try.func29, Try.ntmps29
  go_wp2_with fail
  refine (copiedP_any w A c ps h hl).mono ?_
  rintro e w1 ⟨g, rfl, hh, hb1⟩
  have hhalf := hh.half hb1
  clear hh hb1
  go_wp2
  go_loopg [10] ps.length (fun gh i wr => ∃ k : Nat, k + gh = ps.length ∧ i = .int .i64 k ∧ Half w wr g k ps)
  case atStart => exact ⟨0, by omega, rfl, hhalf⟩
  case round =>
    obtain ⟨k, hkg, rfl, hhk⟩ := hrel
    by_cases hk : k < ps.length
    · obtain ⟨A1, c1, hc1, hf1, hr1⟩ := hhk.load hk
      have hx := hs.at_ k
      have hst := fun (w' : World) (q : Nat) (hb' : Below wr.heap.size wr w') (hq : wr.heap.size ≤ q) (hr : Row w' q 5 (ps.getD k [])) => hhk.step hk hb' hq hr
      generalize ps.getD k [] = xs at hc1 hr1 hx hst
      have Hst := Lib.hid hst
      clear hst
      go_wp2_with fail
      refine (copied_any wr A1 c1 xs hr1 hx).mono ?_
      rintro e w2 ⟨q, rfl, hq, hrow, hb2⟩
      obtain ⟨hcc, hff, hh2⟩ := Hst.out w2 q hb2 hq hrow
      rw [hc1] at hcc
      clear hc1 hf1 Hst
      go_wp2
      go_roundg (gk - 1)
      case measure => omega
      case rel => exact ⟨k + 1, by omega, by go_num, hh2⟩
    · obtain rfl : k = ps.length := by omega
      go_wp2
      go_ret
      exact ⟨g, rfl, hhk.news, hhk.bel⟩

end Go.Proofs.Ytjilbgdenolllaa
