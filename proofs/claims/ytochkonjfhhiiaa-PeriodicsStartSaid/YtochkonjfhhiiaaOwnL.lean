/-
  Helper text: lists of packets in memory of their own; no statement is proved here.
-/
import Derived.Test.YtochkonjfhhiiaaOwn
namespace Go.Proofs.Ytochkonjfhhiiaa
open Go Go.RowKit

/-- A new list whose first k packets are copied. -/
structure Fill (w0 w : World) (g k : Nat) (ps : List (List UInt8)) : Prop where
  ge : w0.heap.size ≤ g
  bel : Below w0.heap.size w0 w
  hdr : ∃ vs : List Value, w.heap[g]? = some (.cells vs.toArray 45 (0, 0)) ∧ vs.length = ps.length ∧
    (∀ j, j < k → j < ps.length → ∃ v, vs[j]? = some v ∧ BytesAt w0.heap.size w v (ps.getD j [])) ∧ (∀ j, k ≤ j → j < ps.length → vs[j]? = some (.slice none 0 0))
theorem Fill.start (w : World) (ps : List (List UInt8)) : Fill w (w.alloc (.cells (madeCells #[.slice none 0 0] ps.length) 45)) w.heap.size 0 ps := by
  refine ⟨Nat.le_refl _, (Below.refl _ w).alloc (Nat.le_refl _) _, List.replicate ps.length (.slice none 0 0), ?_, by simp, fun j hj => absurd hj (by omega), fun j _ hj => by simp [hj]⟩
  rw [heap_alloc_new w]
  have e : madeCells #[Value.slice none 0 0] ps.length = (List.replicate ps.length (Value.slice none 0 0)).toArray := by
    apply Array.ext
    · simp [madeCells]
    · intro i h1 h2
      simp [madeCells, Nat.mod_one]
  rw [e]
theorem Fill.cell {w0 w : World} {g k : Nat} {ps : List (List UInt8)} (h : Fill w0 w g k ps) (hk : k < ps.length) : w.cell? ⟨g, k, none⟩ = some (.slice none 0 0) ∧ w.frozen? ⟨g, k, none⟩ = false := by
  obtain ⟨_, _, vs, h1, h2, _, h4⟩ := h
  exact ⟨block_at h1 (by simpa using h4 k (Nat.le_refl _) hk), block_free h1 _⟩
theorem Fill.step {w0 w w' : World} {g k : Nat} {ps : List (List UInt8)} {v : Value} (h : Fill w0 w g k ps) (hk : k < ps.length) (hb' : Below w.heap.size w w') (hv : BytesAt w.heap.size w' v (ps.getD k [])) :
    w'.cell? ⟨g, k, none⟩ = some (.slice none 0 0) ∧ w'.frozen? ⟨g, k, none⟩ = false ∧ Fill w0 (w'.setCell ⟨g, k, none⟩ v) g (k + 1) ps := by
  obtain ⟨hge, hb, vs, h1, h2, h3, h4⟩ := h
  have hgl := block_lt h1
  have h1' := (hb'.block g hgl).trans h1
  refine ⟨(hb'.cell hgl).trans (block_at h1 (by simpa using h4 k (Nat.le_refl _) hk)), block_free h1' _, hge, ?_, vs.set k v, ?_, by simpa using h2, fun j hj hjl => ?_, fun j hj hjl => ?_⟩
  · exact (hb.trans (hb'.mono hb.size)).setCell (p := ⟨g, k, none⟩) hge _
  · have := block_set h1' k v
    simpa using this
  · have keep : ∀ {u : Value} {ys : List UInt8} {n : Nat}, BytesAt n w' u ys → BytesAt n (w'.setCell ⟨g, k, none⟩ v) u ys := fun {u ys n} hu =>
      hu.keep fun b cs _ hcs => Below.heap_setCell _ _ _ _ (fun e => block_ne hcs h1' (by decide) e)
    by_cases hjk : j = k
    · subst hjk
      exact ⟨v, by rw [List.getElem?_set_self (by omega)], keep (hv.less hb.size)⟩
    · obtain ⟨u, e1, e2⟩ := h3 j (by omega) hjl
      refine ⟨u, by rw [List.getElem?_set_ne (by omega)]; exact e1, keep (e2.keep fun b cs _ hcs => hb'.block b (block_lt hcs))⟩
  · rw [List.getElem?_set_ne (by omega)]
    exact h4 j (by omega) hjl
theorem bytesAt_rd {n : Nat} {W : World} {v : Value} {ps : List UInt8} (h : BytesAt n W v ps) (hl : ps.length ≤ 1000000) : ∃ A c, v = .slice A ps.length c ∧ Rd W W.heap.size A c ps := by
  obtain ⟨A, rfl, h⟩ := h
  refine ⟨A, _, rfl, Nat.le_refl _, by omega, fun hn => ?_⟩
  obtain ⟨b, off, cs, e, _, hb, hc⟩ := h hn
  exact ⟨b, off, e, block_lt hb, hc⟩
theorem Fill.rds {w0 w : World} {g : Nat} {ps : List (List UInt8)} (h : Fill w0 w g ps.length ps) (hl : ps.length ≤ 1000000) (hs : ∀ j, (ps.getD j []).length ≤ 1000000) : Rds w w.heap.size (some ⟨g, 0, none⟩) ps.length ps := by
  obtain ⟨hge, hb, vs, h1, h2, h3, _⟩ := h
  refine ⟨Nat.le_refl _, by omega, fun _ => ⟨g, 0, rfl, block_lt h1, fun j hj => ?_⟩⟩
  obtain ⟨v, e1, e2⟩ := h3 j hj hj
  obtain ⟨A, c, rfl, hr⟩ := bytesAt_rd e2 (hs j)
  exact ⟨A, c, by rw [Nat.zero_add]; exact block_at h1 (by simpa using e1), hr⟩

theorem Fill.rdsKeep {w0 w w' : World} {g : Nat} {ps : List (List UInt8)} (h : Fill w0 w g ps.length ps) (hl : ps.length ≤ 1000000) (hs : ∀ j, (ps.getD j []).length ≤ 1000000) (hk : ∀ b, w0.heap.size ≤ b → b < w.heap.size → w'.heap[b]? = w.heap[b]?) : Rds w' w'.heap.size (some ⟨g, 0, none⟩) ps.length ps := by
  obtain ⟨hge, hb, vs, h1, h2, h3, _⟩ := h
  have h1' := (hk g hge (block_lt h1)).trans h1
  refine ⟨Nat.le_refl _, by omega, fun _ => ⟨g, 0, rfl, block_lt h1', fun j hj => ?_⟩⟩
  obtain ⟨v, e1, e2⟩ := h3 j hj hj
  obtain ⟨A, c, rfl, hr⟩ := bytesAt_rd (e2.keep fun b cs hb hcs => hk b hb (block_lt hcs)) (hs j)
  exact ⟨A, c, by rw [Nat.zero_add]; exact block_at h1' (by simpa using e1), hr⟩

set_option maxHeartbeats 1600000 in
theorem ownList_any (w : World) (A : Option Addr) (c : Nat) (ps : List (List UInt8)) (hr : Rds w w.heap.size A c ps) (hl : ps.length ≤ 100000) (hs : ∀ j, (ps.getD j []).length ≤ 1000000) :
    Calls Try.prog 30 #[.slice A ps.length c] w fun e w' => ∃ g, e = .returned (.slice (some ⟨g, 0, none⟩) ps.length ps.length) ∧ Fill w w' g ps.length ps ∧ Below w.heap.size w w' := by
  have hle := hr.le
  have hcap := hr.cap
  have hmk := makeP_full (ps.length : Int) w (by omega) (by omega)
  simp only [Int.toNat_natCast] at hmk
  have hf := Fill.start w ps
  go_enter Try.func30, Try.ntmps30
  go_wp2_with fail
  generalize w.alloc (.cells (madeCells #[.slice none 0 0] ps.length) 45) = W1 at hf ⊢
  generalize hg : w.heap.size = g at hf ⊢
  replace hg := Lib.hid hg
  clear hmk
  go_loopw [11] (fun v wr => ∃ k : Nat, v = .int .i64 (k : Int) ∧ k ≤ ps.length ∧ RowKit.Hid (Fill w wr g k ps)) (fun v _ => ps.length - (intOf v).toNat)
  case atStart => exact ⟨0, rfl, Nat.zero_le _, hf⟩
  case round =>
    obtain ⟨k, rfl, hk, hfl⟩ := hrel
    by_cases hlt : k < ps.length
    · have hlt2 : (k : Int) < (ps.length : Int) := by omega
      obtain ⟨b, off, A', c', hA, hbb, hcell0, hrd⟩ := hr.at_ hlt
      subst hA
      have hcell := (hfl.out.bel.cell (p := ⟨b, off + k, none⟩) hbb).trans hcell0
      have hrd2 := (hrd.below hfl.out.bel).more hfl.out.bel.size
      have hst := fun (w' : World) (v : Value) (hb' : Below wr.heap.size wr w') (hv : BytesAt wr.heap.size w' v (ps.getD k [])) => hfl.out.step hlt hb' hv
      have hsk := hs k
      clear hcell0 hrd
      generalize ps.getD k [] = xs at hcell hrd2 hst hsk
      replace hst := Lib.hid hst
      go_wp2_with fail
      refine (own_any wr A' c' xs hrd2 hsk).mono ?_
      rintro e w2 ⟨v, rfl, hv, hb2⟩
      obtain ⟨q1, q2, q3⟩ := hst.out w2 v hb2 hv
      obtain ⟨A3, rfl, _⟩ := hv
      replace q3 := Lib.hid q3
      clear hst hb2 hcell hrd2
      go_wp2_with fail
      go_roundw
      case rel => exact ⟨k + 1, by simp, by omega, q3⟩
      case measure => simp [intOf]; omega
    · have hke : k = ps.length := by omega
      subst hke
      go_wp2_with fail
      go_ret
      exact ⟨g, rfl, hfl.out, hfl.out.bel⟩
end Go.Proofs.Ytochkonjfhhiiaa
