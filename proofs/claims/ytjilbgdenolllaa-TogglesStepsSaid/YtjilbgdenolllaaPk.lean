/-
  Helper text: lists of packets in memory; no statement is proved here.
-/
import Derived.Test.YtjilbgdenolllaaRegB
import Derived.Test.YtjilbgdenolllaaProg
import Derived.Test.YtjilbgdenolllaaChecked
import Derived.Laws.CopyOwn
import Derived.ArgAppend
import Derived.Outline
import Derived.RegionTactic
import Derived.Deep.RegionWith
import Derived.Deep.LoopGhost
namespace Go.Proofs.Ytjilbgdenolllaa
open Go Go.RowKit

theorem Try.info5 : (Try.prog.info? 5).map (fun i => (i.zero, i.size, i.bytes)) = some (some (.int .u8 0), 1, 1) := by kernel_rfl
theorem Try.info26 : (Try.prog.info? 26).map (fun i => (i.zero, i.size, i.bytes)) = some (some (.slice none 0 0), 1, 24) := by kernel_rfl
/-- make([]byte, n). -/
theorem make_full (n : Int) (W : World) (h0 : 0 ≤ n) (h : n ≤ 10000000) : (Instr.makeSlice 26 (.int .i64 n) (.int .i64 n)).run Try.prog W = .ok (.slice (some ⟨W.heap.size, 0, none⟩) n.toNat n.toNat) (W.alloc (.cells (madeCells #[.int .u8 0] n.toNat) 5)) := by
  obtain ⟨i0, hi, hz0, hz1, hz2⟩ := info_parts Try.info5
  have := run_make (P := Try.prog) W 26 5 i0 (.int .u8 0) Try.underlying26 hi hz0 .i64 .i64 n n (by omega) (by omega) (by rw [hz2]; omega) (by omega)
  rw [this, hz1]
  simp [Value.cells]
/-- make([][]byte, n). -/
theorem makeP_full (n : Int) (W : World) (h0 : 0 ≤ n) (h : n ≤ 10000000) : (Instr.makeSlice 22 (.int .i64 n) (.int .i64 n)).run Try.prog W = .ok (.slice (some ⟨W.heap.size, 0, none⟩) n.toNat n.toNat) (W.alloc (.cells (madeCells #[.slice none 0 0] n.toNat) 26)) := by
  obtain ⟨i0, hi, hz0, hz1, hz2⟩ := info_parts Try.info26
  have := run_make (P := Try.prog) W 22 26 i0 (.slice none 0 0) Try.underlying22 hi hz0 .i64 .i64 n n (by omega) (by omega) (by rw [hz2]; omega) (by omega)
  rw [this, hz1]
  simp [Value.cells]

/-- A slice of slices that reads as ps. -/
structure Rds (w : World) (B : Nat) (A : Option Addr) (c : Nat) (ps : List (List UInt8)) : Prop where
  le : ps.length ≤ c
  cap : c ≤ 9223372036854775807
  cells : 0 < ps.length → ∃ b off, A = some ⟨b, off, none⟩ ∧ b < B ∧ ∀ j, j < ps.length → ∃ A' c', w.cell? ⟨b, off + j, none⟩ = some (.slice A' (ps.getD j []).length c') ∧ Rd w B A' c' (ps.getD j [])
namespace Rds
variable {w w' : World} {B B' c : Nat} {A : Option Addr} {ps : List (List UInt8)}
theorem at_ (h : Rds w B A c ps) {k : Nat} (hk : k < ps.length) :
    ∃ b off A' c', A = some ⟨b, off, none⟩ ∧ b < B ∧ w.cell? ⟨b, off + k, none⟩ = some (.slice A' (ps.getD k []).length c') ∧ Rd w B A' c' (ps.getD k []) := by
  obtain ⟨b, off, e, hb, hc⟩ := h.cells (by omega)
  obtain ⟨A', c', h1, h2⟩ := hc k hk
  exact ⟨b, off, A', c', e, hb, h1, h2⟩
theorem nil (w : World) (B : Nat) : Rds w B none 0 [] := ⟨Nat.le_refl _, by omega, fun h => absurd h (by simp)⟩
theorem empty (h : c ≤ 9223372036854775807) : Rds w B A c [] := ⟨Nat.zero_le _, h, fun h => absurd h (by simp)⟩
theorem keep (h : Rds w B A c ps) (hk : ∀ p : Addr, p.block < B → w'.cell? p = w.cell? p) : Rds w' B A c ps :=
  ⟨h.le, h.cap, fun hn => by
    obtain ⟨b, off, e, hlt, hc⟩ := h.cells hn
    refine ⟨b, off, e, hlt, fun j hj => ?_⟩
    obtain ⟨A', c', h1, h2⟩ := hc j hj
    exact ⟨A', c', (hk _ hlt).trans h1, h2.keep hk⟩⟩
theorem below (h : Rds w B A c ps) (hb : Below B w w') : Rds w' B A c ps := h.keep fun _ hp => hb.cell hp
theorem more (h : Rds w B A c ps) (hB : B ≤ B') : Rds w B' A c ps :=
  ⟨h.le, h.cap, fun hn => by
    obtain ⟨b, off, e, hlt, hc⟩ := h.cells hn
    refine ⟨b, off, e, by omega, fun j hj => ?_⟩
    obtain ⟨A', c', h1, h2⟩ := hc j hj
    exact ⟨A', c', h1, h2.more hB⟩⟩
theorem belowTop (h : Rds w w.heap.size A c ps) (hb : Below w.heap.size w w') : Rds w' w'.heap.size A c ps := (h.below hb).more hb.size
theorem drew (h : Rds w B A c ps) : Rds w.drew B A c ps := h.keep fun _ _ => rfl
theorem clip (h : Rds w B A c ps) : Rds w B A ps.length ps := ⟨Nat.le_refl _, by have := h.le; have := h.cap; omega, h.cells⟩
theorem take (h : Rds w B A c ps) {k : Nat} (hk : k ≤ ps.length) : Rds w B A c (ps.take k) :=
  ⟨by have := h.le; rw [List.length_take]; omega, h.cap, fun hn => by
    rw [List.length_take] at hn
    obtain ⟨b, off, e, hb, hc⟩ := h.cells (by omega)
    refine ⟨b, off, e, hb, fun j hj => ?_⟩
    rw [List.length_take] at hj
    obtain ⟨A', c', h1, h2⟩ := hc j (by omega)
    have hg : (ps.take k).getD j [] = ps.getD j [] := by simp [List.getD, show j < k by omega]
    rw [hg]
    exact ⟨A', c', h1, h2⟩⟩
theorem drop (h : Rds w B A c ps) {k : Nat} (hk : k ≤ ps.length) : Rds w B (if c = k then A else A.map (·.add k)) (c - k) (ps.drop k) := by
  have hle := h.le
  have hcap := h.cap
  refine ⟨by rw [List.length_drop]; omega, by omega, fun hn => ?_⟩
  rw [List.length_drop] at hn
  obtain ⟨b, off, rfl, hb, hc⟩ := h.cells (by omega)
  rw [if_neg (by omega)]
  refine ⟨b, off + k, by simp [Go.WideShapes.add_plain], hb, fun j hj => ?_⟩
  rw [List.length_drop] at hj
  obtain ⟨A', c', h1, h2⟩ := hc (k + j) (by omega)
  have hg : (ps.drop k).getD j [] = ps.getD (k + j) [] := by simp [List.getD, List.getElem?_drop]
  rw [hg, Nat.add_assoc]
  exact ⟨A', c', h1, h2⟩
theorem from_ (h : Rds w B A c ps) {k : Nat} (hk : k ≤ ps.length) :
    ∃ A' c', sliced A k ps.length c 1 = .slice A' (ps.length - k) c' ∧ Rds w B A' c' (ps.drop k) :=
  ⟨_, _, by simp [sliced], h.drop hk⟩
end Rds

theorem grown_of_below {w w' : World} (h : Below w.heap.size w w') (r : Option Nat) : w.grownBy w' r := ⟨h.os, h.tape, h.output, h.size, fun k hk _ => h.block k hk⟩
theorem grown_refl (w : World) (r : Option Nat) : w.grownBy w r := ⟨rfl, rfl, rfl, Nat.le_refl _, fun _ _ _ => rfl⟩
theorem grown_trans {a b c : World} {r : Option Nat} (h : a.grownBy b r) (k : b.grownBy c r) : a.grownBy c r :=
  ⟨k.os.trans h.os, k.tape.trans h.tape, k.output.trans h.output, Nat.le_trans h.size k.size, fun i hi hn => (k.block i (Nat.lt_of_lt_of_le hi h.size) hn).trans (h.block i hi hn)⟩
theorem grown_setCell (w : World) (p : Addr) (u : Value) : w.grownBy (w.setCell p u) (some p.block) :=
  ⟨rfl, rfl, rfl, by simp, fun k _ hn => Below.heap_setCell _ _ _ _ (fun e => hn (by rw [e]))⟩
theorem block_at {w : World} {g t i : Nat} {cs : Array Value} {v : Value} (h : w.heap[g]? = some (.cells cs t (0, 0))) (hv : cs[i]? = some v) : w.cell? ⟨g, i, none⟩ = some v := by
  rw [cell_of_row w g i cs t (0, 0) h]; exact hv
theorem block_free {w : World} {g t : Nat} {cs : Array Value} (h : w.heap[g]? = some (.cells cs t (0, 0))) (i : Nat) : w.frozen? ⟨g, i, none⟩ = false := by
  simp [World.frozen?, h]
theorem block_set {w : World} {g t : Nat} {cs : Array Value} (h : w.heap[g]? = some (.cells cs t (0, 0))) (i : Nat) (v : Value) : (w.setCell ⟨g, i, none⟩ v).heap[g]? = some (.cells (cs.setIfInBounds i v) t (0, 0)) := by
  simp [World.setCell, Array.getElem?_modify, h]
theorem block_lt {w : World} {g : Nat} {o : Obj} (h : w.heap[g]? = some o) : g < w.heap.size := (Array.getElem?_eq_some_iff.1 h).1
theorem block_ne {w : World} {g g' : Nat} {cs cs' : Array Value} {t t' : TypeId} (h : w.heap[g]? = some (.cells cs t (0, 0))) (h' : w.heap[g']? = some (.cells cs' t' (0, 0))) (hne : t ≠ t') : g ≠ g' := fun e => by
  subst e
  rw [h] at h'
  have h1 := Option.some.inj h'
  injection h1 with _ h2
  exact hne h2
theorem block_grown {w w' : World} {g t : Nat} {cs : Array Value} {r : Option Nat} (h : w.heap[g]? = some (.cells cs t (0, 0))) (hg : w.grownBy w' r) (hne : some g ≠ r) : w'.heap[g]? = some (.cells cs t (0, 0)) :=
  (hg.block g (block_lt h) hne).trans h

/-- Small lists of packets. -/
def Sml (ps : List (List UInt8)) : Prop := ps.length ≤ 100000 ∧ ∀ j, (ps.getD j []).length ≤ 100000
theorem Sml.at_ {ps : List (List UInt8)} (h : Sml ps) (k : Nat) : (ps.getD k []).length ≤ 100000 := h.2 k
theorem Sml.drop {ps : List (List UInt8)} (h : Sml ps) (k : Nat) : Sml (ps.drop k) := by
  refine ⟨by have := h.1; rw [List.length_drop]; omega, fun j => ?_⟩
  have hg : (ps.drop k).getD j [] = ps.getD (k + j) [] := by simp [List.getD, List.getElem?_drop]
  rw [hg]
  exact h.2 _
theorem Sml.take {ps : List (List UInt8)} (h : Sml ps) (k : Nat) : Sml (ps.take k) := by
  refine ⟨by have := h.1; rw [List.length_take]; omega, fun j => ?_⟩
  by_cases hj : j < k
  · have hg : (ps.take k).getD j [] = ps.getD j [] := by simp [List.getD, hj]
    rw [hg]
    exact h.2 _
  · have hg : (ps.take k).getD j [] = [] := by simp [List.getD, List.getElem?_take, hj]
    rw [hg]
    simp
theorem getD_append_lt {ps qs : List (List UInt8)} {j : Nat} (h : j < ps.length) : (ps ++ qs).getD j [] = ps.getD j [] := by simp [List.getD, List.getElem?_append, h]
theorem getD_append_ge {ps qs : List (List UInt8)} {j : Nat} (h : ps.length ≤ j) : (ps ++ qs).getD j [] = qs.getD (j - ps.length) [] := by
  have : ¬ j < ps.length := by omega
  simp [List.getD, List.getElem?_append, this]

/-- A new list of packets: block g holds the headers, each packet lies in a new block of its own. -/
structure News (w : World) (base g : Nat) (ps : List (List UInt8)) : Prop where
  ge : base ≤ g
  hdr : ∃ vs : List Value, w.heap[g]? = some (.cells vs.toArray 26 (0, 0)) ∧ vs.length = ps.length ∧
    ∀ j, j < ps.length → ∃ q, vs[j]? = some (.slice (some ⟨q, 0, none⟩) (ps.getD j []).length (ps.getD j []).length) ∧ base ≤ q ∧ Row w q 5 (ps.getD j [])
namespace News
variable {w w' : World} {base g : Nat} {ps : List (List UInt8)}
theorem lt (h : News w base g ps) : g < w.heap.size := by
  obtain ⟨vs, h1, _⟩ := h.hdr
  exact block_lt h1
theorem below (h : News w base g ps) (hb : Below w.heap.size w w') : News w' base g ps := by
  obtain ⟨hge, vs, h1, h2, h3⟩ := h
  refine ⟨hge, vs, (hb.block g (block_lt h1)).trans h1, h2, fun j hj => ?_⟩
  obtain ⟨q, e1, e2, e3⟩ := h3 j hj
  exact ⟨q, e1, e2, e3.below hb e3.lt⟩
theorem mono (h : News w base g ps) {base' : Nat} (hb : base' ≤ base) : News w base' g ps := by
  obtain ⟨hge, vs, h1, h2, h3⟩ := h
  refine ⟨Nat.le_trans hb hge, vs, h1, h2, fun j hj => ?_⟩
  obtain ⟨q, e1, e2, e3⟩ := h3 j hj
  exact ⟨q, e1, Nat.le_trans hb e2, e3⟩
theorem rds (h : News w base g ps) (hs : Sml ps) : Rds w w.heap.size (some ⟨g, 0, none⟩) ps.length ps := by
  obtain ⟨hge, vs, h1, h2, h3⟩ := h
  refine ⟨Nat.le_refl _, by have := hs.1; omega, fun _ => ⟨g, 0, rfl, block_lt h1, fun j hj => ?_⟩⟩
  obtain ⟨q, e1, e2, e3⟩ := h3 j hj
  refine ⟨_, _, ?_, e3.rd (by have := hs.2 j; omega)⟩
  rw [Nat.zero_add]
  exact block_at h1 (by simpa using e1)
end News

/-- The headers of a copied list; the packets are the old ones. -/
structure Hdrs (w0 w : World) (g : Nat) (ps : List (List UInt8)) : Prop where
  ge : w0.heap.size ≤ g
  hdr : ∃ vs : List Value, w.heap[g]? = some (.cells vs.toArray 26 (0, 0)) ∧ vs.length = ps.length ∧
    ∀ j, j < ps.length → ∃ A c, vs[j]? = some (.slice A (ps.getD j []).length c) ∧ Rd w0 w0.heap.size A c (ps.getD j [])

/-- Slices of packets among which the first k are new ones. -/
structure Half (w0 w : World) (g k : Nat) (ps : List (List UInt8)) : Prop where
  ge : w0.heap.size ≤ g
  bel : Below w0.heap.size w0 w
  hdr : ∃ vs : List Value, w.heap[g]? = some (.cells vs.toArray 26 (0, 0)) ∧ vs.length = ps.length ∧
    (∀ j, j < k → j < ps.length → ∃ q, vs[j]? = some (.slice (some ⟨q, 0, none⟩) (ps.getD j []).length (ps.getD j []).length) ∧ w0.heap.size ≤ q ∧ Row w q 5 (ps.getD j [])) ∧
    (∀ j, k ≤ j → j < ps.length → ∃ A c, vs[j]? = some (.slice A (ps.getD j []).length c) ∧ Rd w0 w0.heap.size A c (ps.getD j []))
theorem Hdrs.half {w0 w : World} {g : Nat} {ps : List (List UInt8)} (h : Hdrs w0 w g ps) (hb : Below w0.heap.size w0 w) : Half w0 w g 0 ps := by
  obtain ⟨hge, vs, h1, h2, h3⟩ := h
  exact ⟨hge, hb, vs, h1, h2, fun j hj => absurd hj (by omega), fun j _ hj => h3 j hj⟩
theorem Half.news {w0 w : World} {g : Nat} {ps : List (List UInt8)} (h : Half w0 w g ps.length ps) : News w w0.heap.size g ps := by
  obtain ⟨hge, hb, vs, h1, h2, h3, _⟩ := h
  exact ⟨hge, vs, h1, h2, fun j hj => h3 j hj hj⟩
/-- What is loaded in a round. -/
theorem Half.load {w0 w : World} {g k : Nat} {ps : List (List UInt8)} (h : Half w0 w g k ps) (hk : k < ps.length) :
    ∃ A c, w.cell? ⟨g, k, none⟩ = some (.slice A (ps.getD k []).length c) ∧ w.frozen? ⟨g, k, none⟩ = false ∧ Rd w w.heap.size A c (ps.getD k []) := by
  obtain ⟨hge, hb, vs, h1, h2, _, h4⟩ := h
  obtain ⟨A, c, e1, e2⟩ := h4 k (Nat.le_refl _) hk
  exact ⟨A, c, block_at h1 (by simpa using e1), block_free h1 _, (e2.below hb).more hb.size⟩
/-- A round. -/
theorem Half.step {w0 w w' : World} {g k q : Nat} {ps : List (List UInt8)} (h : Half w0 w g k ps) (hk : k < ps.length) (hb' : Below w.heap.size w w') (hq : w.heap.size ≤ q) (hr : Row w' q 5 (ps.getD k [])) :
    w'.cell? ⟨g, k, none⟩ = w.cell? ⟨g, k, none⟩ ∧ w'.frozen? ⟨g, k, none⟩ = false ∧ Half w0 (w'.setCell ⟨g, k, none⟩ (.slice (some ⟨q, 0, none⟩) (ps.getD k []).length (ps.getD k []).length)) g (k + 1) ps := by
  obtain ⟨hge, hb, vs, h1, h2, h3, h4⟩ := h
  have hgl := block_lt h1
  have h1' := (hb'.block g hgl).trans h1
  refine ⟨hb'.cell hgl, block_free h1' _, hge, ?_, vs.set k (.slice (some ⟨q, 0, none⟩) (ps.getD k []).length (ps.getD k []).length), ?_, by simpa using h2, fun j hj hjl => ?_, fun j hj hjl => ?_⟩
  · exact (hb.trans (hb'.mono hb.size)).setCell (p := ⟨g, k, none⟩) hge _
  · have := block_set h1' k (.slice (some ⟨q, 0, none⟩) (ps.getD k []).length (ps.getD k []).length)
    simpa using this
  · have keep : ∀ {q' : Nat} {ys : List UInt8} {u : Value}, Row w' q' 5 ys → Row (w'.setCell ⟨g, k, none⟩ u) q' 5 ys := fun {q' ys u} hr' =>
      block_grown hr' (grown_setCell w' ⟨g, k, none⟩ u) (fun e => block_ne hr' h1' (by decide) (Option.some.inj e))
    by_cases hjk : j = k
    · subst hjk
      exact ⟨q, by rw [List.getElem?_set_self (by omega)], by have := hb.size; omega, keep hr⟩
    · obtain ⟨q', e1, e2, e3⟩ := h3 j (by omega) hjl
      exact ⟨q', by rw [List.getElem?_set_ne (by omega)]; exact e1, e2, keep (e3.below hb' e3.lt)⟩
  · obtain ⟨A, c, e1, e2⟩ := h4 j (by omega) hjl
    exact ⟨A, c, by rw [List.getElem?_set_ne (by omega)]; exact e1, e2⟩

end Go.Proofs.Ytjilbgdenolllaa
