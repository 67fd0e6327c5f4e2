/-
  Helper text, several in one; no statement is proved here.
-/
import Derived.Test.YtkfkcpogcobmbaaDoorRegB
import Derived.Test.YtkfkcpogcobmbaaDoorRegT
import Derived.Test.YtkfkcpogcobmbaaDoorProg
import Derived.Test.YtkfkcpogcobmbaaDoorChecked
import Derived.Laws.CopyOwn
import Derived.ArgAppend
import Derived.Outline
import Derived.RegionTactic
import Derived.Deep.RegionWith
import Derived.Deep.LoopGhost
import Derived.Deep.RegionHeld3
import Derived.Deep.RegionLaw
import Derived.Deep.DrawnRows
namespace Go.Proofs.YtkfkcpogcobmbaaDoor.Tg
open Go Go.RowKit Go.Proofs.YtkfkcpogcobmbaaDoor

theorem Tryd.info5 : (Tryd.prog.info? 5).map (fun i => (i.zero, i.size, i.bytes)) = some (some (.int .u8 0), 1, 1) := by kernel_rfl
theorem Tryd.info22 : (Tryd.prog.info? 22).map (fun i => (i.zero, i.size, i.bytes)) = some (some (.slice none 0 0), 1, 24) := by kernel_rfl
/-- make([]byte, n). -/
theorem make_full (n : Int) (W : World) (h0 : 0 ≤ n) (h : n ≤ 10000000) : (Instr.makeSlice 22 (.int .i64 n) (.int .i64 n)).run Tryd.prog W = .ok (.slice (some ⟨W.heap.size, 0, none⟩) n.toNat n.toNat) (W.alloc (.cells (madeCells #[.int .u8 0] n.toNat) 5)) := by
  obtain ⟨i0, hi, hz0, hz1, hz2⟩ := info_parts Tryd.info5
  have := run_make (P := Tryd.prog) W 22 5 i0 (.int .u8 0) Tryd.underlying22 hi hz0 .i64 .i64 n n (by omega) (by omega) (by rw [hz2]; omega) (by omega)
  rw [this, hz1]
  simp [Value.cells]
/-- make([][]byte, n). -/
theorem makeP_full (n : Int) (W : World) (h0 : 0 ≤ n) (h : n ≤ 10000000) : (Instr.makeSlice 79 (.int .i64 n) (.int .i64 n)).run Tryd.prog W = .ok (.slice (some ⟨W.heap.size, 0, none⟩) n.toNat n.toNat) (W.alloc (.cells (madeCells #[.slice none 0 0] n.toNat) 22)) := by
  obtain ⟨i0, hi, hz0, hz1, hz2⟩ := info_parts Tryd.info22
  have := run_make (P := Tryd.prog) W 79 22 i0 (.slice none 0 0) Tryd.underlying79 hi hz0 .i64 .i64 n n (by omega) (by omega) (by rw [hz2]; omega) (by omega)
  rw [this, hz1]
  simp [Value.cells]

/-- A slice of slices that reads as ps. -/
structure Rds (w : World) (B : Nat) (A : Option Addr) (c : Nat) (ps : List (List UInt8)) : Prop where
  le : ps.length ≤ c
  cap : c ≤ 9223372036854775807
  cells : 0 < ps.length → ∃ b off, A = some ⟨b, off, none⟩ ∧ b < B ∧ ∀ j, j < ps.length → ∃ A' c', w.cell? ⟨b, off + j, none⟩ = some (.slice A' (ps.getD j []).length c') ∧ Rd w B A' c' (ps.getD j [])
namespace Rds
variable {w w' : World} {B B' c : Nat} {A : Option Addr} {ps : List (List UInt8)}
theorem at_ (h : Rds w B A c ps) {k : Nat} (hk : k < ps.length) :
    ∃ b off A' c', A = some ⟨b, off, none⟩ ∧ b < B ∧ w.cell? ⟨b, off + k, none⟩ = some (.slice A' (ps.getD k []).length c') ∧ Rd w B A' c' (ps.getD k []) := by
  obtain ⟨b, off, e, hb, hc⟩ := h.cells (by omega)
  obtain ⟨A', c', h1, h2⟩ := hc k hk
  exact ⟨b, off, A', c', e, hb, h1, h2⟩
theorem nil (w : World) (B : Nat) : Rds w B none 0 [] := ⟨Nat.le_refl _, by omega, fun h => absurd h (by simp)⟩
theorem empty (h : c ≤ 9223372036854775807) : Rds w B A c [] := ⟨Nat.zero_le _, h, fun h => absurd h (by simp)⟩
theorem keep (h : Rds w B A c ps) (hk : ∀ p : Addr, p.block < B → w'.cell? p = w.cell? p) : Rds w' B A c ps :=
  ⟨h.le, h.cap, fun hn => by
    obtain ⟨b, off, e, hlt, hc⟩ := h.cells hn
    refine ⟨b, off, e, hlt, fun j hj => ?_⟩
    obtain ⟨A', c', h1, h2⟩ := hc j hj
    exact ⟨A', c', (hk _ hlt).trans h1, h2.keep hk⟩⟩
theorem below (h : Rds w B A c ps) (hb : Below B w w') : Rds w' B A c ps := h.keep fun _ hp => hb.cell hp
theorem more (h : Rds w B A c ps) (hB : B ≤ B') : Rds w B' A c ps :=
  ⟨h.le, h.cap, fun hn => by
    obtain ⟨b, off, e, hlt, hc⟩ := h.cells hn
    refine ⟨b, off, e, by omega, fun j hj => ?_⟩
    obtain ⟨A', c', h1, h2⟩ := hc j hj
    exact ⟨A', c', h1, h2.more hB⟩⟩
theorem belowTop (h : Rds w w.heap.size A c ps) (hb : Below w.heap.size w w') : Rds w' w'.heap.size A c ps := (h.below hb).more hb.size
theorem drew (h : Rds w B A c ps) : Rds w.drew B A c ps := h.keep fun _ _ => rfl
theorem clip (h : Rds w B A c ps) : Rds w B A ps.length ps := ⟨Nat.le_refl _, by have := h.le; have := h.cap; omega, h.cells⟩
theorem take (h : Rds w B A c ps) {k : Nat} (hk : k ≤ ps.length) : Rds w B A c (ps.take k) :=
  ⟨by have := h.le; rw [List.length_take]; omega, h.cap, fun hn => by
    rw [List.length_take] at hn
    obtain ⟨b, off, e, hb, hc⟩ := h.cells (by omega)
    refine ⟨b, off, e, hb, fun j hj => ?_⟩
    rw [List.length_take] at hj
    obtain ⟨A', c', h1, h2⟩ := hc j (by omega)
    have hg : (ps.take k).getD j [] = ps.getD j [] := by simp [List.getD, show j < k by omega]
    rw [hg]
    exact ⟨A', c', h1, h2⟩⟩
theorem drop (h : Rds w B A c ps) {k : Nat} (hk : k ≤ ps.length) : Rds w B (if c = k then A else A.map (·.add k)) (c - k) (ps.drop k) := by
  have hle := h.le
  have hcap := h.cap
  refine ⟨by rw [List.length_drop]; omega, by omega, fun hn => ?_⟩
  rw [List.length_drop] at hn
  obtain ⟨b, off, rfl, hb, hc⟩ := h.cells (by omega)
  rw [if_neg (by omega)]
  refine ⟨b, off + k, by simp [Go.WideShapes.add_plain], hb, fun j hj => ?_⟩
  rw [List.length_drop] at hj
  obtain ⟨A', c', h1, h2⟩ := hc (k + j) (by omega)
  have hg : (ps.drop k).getD j [] = ps.getD (k + j) [] := by simp [List.getD, List.getElem?_drop]
  rw [hg, Nat.add_assoc]
  exact ⟨A', c', h1, h2⟩
theorem from_ (h : Rds w B A c ps) {k : Nat} (hk : k ≤ ps.length) :
    ∃ A' c', sliced A k ps.length c 1 = .slice A' (ps.length - k) c' ∧ Rds w B A' c' (ps.drop k) :=
  ⟨_, _, by simp [sliced], h.drop hk⟩
end Rds

theorem grown_of_below {w w' : World} (h : Below w.heap.size w w') (r : Option Nat) : w.grownBy w' r := ⟨h.os, h.tape, h.output, h.size, fun k hk _ => h.block k hk⟩
theorem grown_refl (w : World) (r : Option Nat) : w.grownBy w r := ⟨rfl, rfl, rfl, Nat.le_refl _, fun _ _ _ => rfl⟩
theorem grown_trans {a b c : World} {r : Option Nat} (h : a.grownBy b r) (k : b.grownBy c r) : a.grownBy c r :=
  ⟨k.os.trans h.os, k.tape.trans h.tape, k.output.trans h.output, Nat.le_trans h.size k.size, fun i hi hn => (k.block i (Nat.lt_of_lt_of_le hi h.size) hn).trans (h.block i hi hn)⟩
theorem grown_setCell (w : World) (p : Addr) (u : Value) : w.grownBy (w.setCell p u) (some p.block) :=
  ⟨rfl, rfl, rfl, by simp, fun k _ hn => Below.heap_setCell _ _ _ _ (fun e => hn (by rw [e]))⟩
theorem block_at {w : World} {g t i : Nat} {cs : Array Value} {v : Value} (h : w.heap[g]? = some (.cells cs t (0, 0))) (hv : cs[i]? = some v) : w.cell? ⟨g, i, none⟩ = some v := by
  rw [cell_of_row w g i cs t (0, 0) h]; exact hv
theorem block_free {w : World} {g t : Nat} {cs : Array Value} (h : w.heap[g]? = some (.cells cs t (0, 0))) (i : Nat) : w.frozen? ⟨g, i, none⟩ = false := by
  simp [World.frozen?, h]
theorem block_set {w : World} {g t : Nat} {cs : Array Value} (h : w.heap[g]? = some (.cells cs t (0, 0))) (i : Nat) (v : Value) : (w.setCell ⟨g, i, none⟩ v).heap[g]? = some (.cells (cs.setIfInBounds i v) t (0, 0)) := by
  simp [World.setCell, Array.getElem?_modify, h]
theorem block_lt {w : World} {g : Nat} {o : Obj} (h : w.heap[g]? = some o) : g < w.heap.size := (Array.getElem?_eq_some_iff.1 h).1
theorem block_ne {w : World} {g g' : Nat} {cs cs' : Array Value} {t t' : TypeId} (h : w.heap[g]? = some (.cells cs t (0, 0))) (h' : w.heap[g']? = some (.cells cs' t' (0, 0))) (hne : t ≠ t') : g ≠ g' := fun e => by
  subst e
  rw [h] at h'
  have h1 := Option.some.inj h'
  injection h1 with _ h2
  exact hne h2
theorem block_grown {w w' : World} {g t : Nat} {cs : Array Value} {r : Option Nat} (h : w.heap[g]? = some (.cells cs t (0, 0))) (hg : w.grownBy w' r) (hne : some g ≠ r) : w'.heap[g]? = some (.cells cs t (0, 0)) :=
  (hg.block g (block_lt h) hne).trans h

/-- Small lists of packets. -/
def Sml (ps : List (List UInt8)) : Prop := ps.length ≤ 5000000 ∧ ∀ j, (ps.getD j []).length ≤ 5000000
theorem Sml.at_ {ps : List (List UInt8)} (h : Sml ps) (k : Nat) : (ps.getD k []).length ≤ 5000000 := h.2 k
theorem Sml.drop {ps : List (List UInt8)} (h : Sml ps) (k : Nat) : Sml (ps.drop k) := by
  refine ⟨by have := h.1; rw [List.length_drop]; omega, fun j => ?_⟩
  have hg : (ps.drop k).getD j [] = ps.getD (k + j) [] := by simp [List.getD, List.getElem?_drop]
  rw [hg]
  exact h.2 _
theorem Sml.take {ps : List (List UInt8)} (h : Sml ps) (k : Nat) : Sml (ps.take k) := by
  refine ⟨by have := h.1; rw [List.length_take]; omega, fun j => ?_⟩
  by_cases hj : j < k
  · have hg : (ps.take k).getD j [] = ps.getD j [] := by simp [List.getD, hj]
    rw [hg]
    exact h.2 _
  · have hg : (ps.take k).getD j [] = [] := by simp [List.getD, List.getElem?_take, hj]
    rw [hg]
    simp
theorem getD_append_lt {ps qs : List (List UInt8)} {j : Nat} (h : j < ps.length) : (ps ++ qs).getD j [] = ps.getD j [] := by simp [List.getD, List.getElem?_append, h]
theorem getD_append_ge {ps qs : List (List UInt8)} {j : Nat} (h : ps.length ≤ j) : (ps ++ qs).getD j [] = qs.getD (j - ps.length) [] := by
  have : ¬ j < ps.length := by omega
  simp [List.getD, List.getElem?_append, this]

/-- A new list of packets: block g holds the headers, each packet lies in a new block of its own. -/
structure News (w : World) (base g : Nat) (ps : List (List UInt8)) : Prop where
  ge : base ≤ g
  hdr : ∃ vs : List Value, w.heap[g]? = some (.cells vs.toArray 22 (0, 0)) ∧ vs.length = ps.length ∧
    ∀ j, j < ps.length → ∃ q, vs[j]? = some (.slice (some ⟨q, 0, none⟩) (ps.getD j []).length (ps.getD j []).length) ∧ base ≤ q ∧ Row w q 5 (ps.getD j [])
namespace News
variable {w w' : World} {base g : Nat} {ps : List (List UInt8)}
theorem lt (h : News w base g ps) : g < w.heap.size := by
  obtain ⟨vs, h1, _⟩ := h.hdr
  exact block_lt h1
theorem below (h : News w base g ps) (hb : Below w.heap.size w w') : News w' base g ps := by
  obtain ⟨hge, vs, h1, h2, h3⟩ := h
  refine ⟨hge, vs, (hb.block g (block_lt h1)).trans h1, h2, fun j hj => ?_⟩
  obtain ⟨q, e1, e2, e3⟩ := h3 j hj
  exact ⟨q, e1, e2, e3.below hb e3.lt⟩
theorem mono (h : News w base g ps) {base' : Nat} (hb : base' ≤ base) : News w base' g ps := by
  obtain ⟨hge, vs, h1, h2, h3⟩ := h
  refine ⟨Nat.le_trans hb hge, vs, h1, h2, fun j hj => ?_⟩
  obtain ⟨q, e1, e2, e3⟩ := h3 j hj
  exact ⟨q, e1, Nat.le_trans hb e2, e3⟩
theorem rds (h : News w base g ps) (hs : Sml ps) : Rds w w.heap.size (some ⟨g, 0, none⟩) ps.length ps := by
  obtain ⟨hge, vs, h1, h2, h3⟩ := h
  refine ⟨Nat.le_refl _, by have := hs.1; omega, fun _ => ⟨g, 0, rfl, block_lt h1, fun j hj => ?_⟩⟩
  obtain ⟨q, e1, e2, e3⟩ := h3 j hj
  refine ⟨_, _, ?_, e3.rd (by have := hs.2 j; omega)⟩
  rw [Nat.zero_add]
  exact block_at h1 (by simpa using e1)
end News

/-- The headers of a copied list; the packets are the old ones. -/
structure Hdrs (w0 w : World) (g : Nat) (ps : List (List UInt8)) : Prop where
  ge : w0.heap.size ≤ g
  hdr : ∃ vs : List Value, w.heap[g]? = some (.cells vs.toArray 22 (0, 0)) ∧ vs.length = ps.length ∧
    ∀ j, j < ps.length → ∃ A c, vs[j]? = some (.slice A (ps.getD j []).length c) ∧ Rd w0 w0.heap.size A c (ps.getD j [])

/-- Slices of packets among which the first k are new ones. -/
structure Half (w0 w : World) (g k : Nat) (ps : List (List UInt8)) : Prop where
  ge : w0.heap.size ≤ g
  bel : Below w0.heap.size w0 w
  hdr : ∃ vs : List Value, w.heap[g]? = some (.cells vs.toArray 22 (0, 0)) ∧ vs.length = ps.length ∧
    (∀ j, j < k → j < ps.length → ∃ q, vs[j]? = some (.slice (some ⟨q, 0, none⟩) (ps.getD j []).length (ps.getD j []).length) ∧ w0.heap.size ≤ q ∧ Row w q 5 (ps.getD j [])) ∧
    (∀ j, k ≤ j → j < ps.length → ∃ A c, vs[j]? = some (.slice A (ps.getD j []).length c) ∧ Rd w0 w0.heap.size A c (ps.getD j []))
theorem Hdrs.half {w0 w : World} {g : Nat} {ps : List (List UInt8)} (h : Hdrs w0 w g ps) (hb : Below w0.heap.size w0 w) : Half w0 w g 0 ps := by
  obtain ⟨hge, vs, h1, h2, h3⟩ := h
  exact ⟨hge, hb, vs, h1, h2, fun j hj => absurd hj (by omega), fun j _ hj => h3 j hj⟩
theorem Half.news {w0 w : World} {g : Nat} {ps : List (List UInt8)} (h : Half w0 w g ps.length ps) : News w w0.heap.size g ps := by
  obtain ⟨hge, hb, vs, h1, h2, h3, _⟩ := h
  exact ⟨hge, vs, h1, h2, fun j hj => h3 j hj hj⟩
/-- What is loaded in a round. -/
theorem Half.load {w0 w : World} {g k : Nat} {ps : List (List UInt8)} (h : Half w0 w g k ps) (hk : k < ps.length) :
    ∃ A c, w.cell? ⟨g, k, none⟩ = some (.slice A (ps.getD k []).length c) ∧ w.frozen? ⟨g, k, none⟩ = false ∧ Rd w w.heap.size A c (ps.getD k []) := by
  obtain ⟨hge, hb, vs, h1, h2, _, h4⟩ := h
  obtain ⟨A, c, e1, e2⟩ := h4 k (Nat.le_refl _) hk
  exact ⟨A, c, block_at h1 (by simpa using e1), block_free h1 _, (e2.below hb).more hb.size⟩
/-- A round. -/
theorem Half.step {w0 w w' : World} {g k q : Nat} {ps : List (List UInt8)} (h : Half w0 w g k ps) (hk : k < ps.length) (hb' : Below w.heap.size w w') (hq : w.heap.size ≤ q) (hr : Row w' q 5 (ps.getD k [])) :
    w'.cell? ⟨g, k, none⟩ = w.cell? ⟨g, k, none⟩ ∧ w'.frozen? ⟨g, k, none⟩ = false ∧ Half w0 (w'.setCell ⟨g, k, none⟩ (.slice (some ⟨q, 0, none⟩) (ps.getD k []).length (ps.getD k []).length)) g (k + 1) ps := by
  obtain ⟨hge, hb, vs, h1, h2, h3, h4⟩ := h
  have hgl := block_lt h1
  have h1' := (hb'.block g hgl).trans h1
  refine ⟨hb'.cell hgl, block_free h1' _, hge, ?_, vs.set k (.slice (some ⟨q, 0, none⟩) (ps.getD k []).length (ps.getD k []).length), ?_, by simpa using h2, fun j hj hjl => ?_, fun j hj hjl => ?_⟩
  · exact (hb.trans (hb'.mono hb.size)).setCell (p := ⟨g, k, none⟩) hge _
  · have := block_set h1' k (.slice (some ⟨q, 0, none⟩) (ps.getD k []).length (ps.getD k []).length)
    simpa using this
  · have keep : ∀ {q' : Nat} {ys : List UInt8} {u : Value}, Row w' q' 5 ys → Row (w'.setCell ⟨g, k, none⟩ u) q' 5 ys := fun {q' ys u} hr' =>
      block_grown hr' (grown_setCell w' ⟨g, k, none⟩ u) (fun e => block_ne hr' h1' (by decide) (Option.some.inj e))
    by_cases hjk : j = k
    · subst hjk
      exact ⟨q, by rw [List.getElem?_set_self (by omega)], by have := hb.size; omega, keep hr⟩
    · obtain ⟨q', e1, e2, e3⟩ := h3 j (by omega) hjl
      exact ⟨q', by rw [List.getElem?_set_ne (by omega)]; exact e1, e2, keep (e3.below hb' e3.lt)⟩
  · obtain ⟨A, c, e1, e2⟩ := h4 j (by omega) hjl
    exact ⟨A, c, by rw [List.getElem?_set_ne (by omega)]; exact e1, e2⟩

end Go.Proofs.YtkfkcpogcobmbaaDoor.Tg

namespace Go.Proofs.YtkfkcpogcobmbaaDoor.Tg
open Go Go.RowKit Go.Proofs.YtkfkcpogcobmbaaDoor

/-- A new row of bytes is returned. -/
def ResN (w : World) (xs : List UInt8) (e : Ending) (w' : World) : Prop :=
  ∃ q, e = .returned (.slice (some ⟨q, 0, none⟩) xs.length xs.length) ∧ w.heap.size ≤ q ∧ Row w' q 5 xs ∧ Below w.heap.size w w'

/-- copy into a row of the call's own. -/
theorem wpl_copy {P : Program} {w : World} {ops : Array Oper} {rest : List Oper} {o : Oper} {a : Act} {Q : Exit → Act → World → Prop} (hgd : o.guard = none) (d s : Operand) (dT sT elem : TypeId)
    (ho : o.op = .call { callee := .builtin .copy, args := #[d, s], argTypes := #[dT, sT] }) (hu : P.underlying dT = some (.slice elem)) (hsz : (P.info? elem).map (fun i => (i.zero, i.size, i.bytes)) = some (some (.int .u8 0), 1, 1))
    (g t dc : Nat) (A : Option Addr) (B c : Nat) (xs : List UInt8) (hrow : Row w g t (List.replicate xs.length 0)) (hd : a.eval d = .slice (some ⟨g, 0, none⟩) xs.length dc) (hr : Rd w B A c xs) (hs : a.eval s = .slice A xs.length c)
    (B0 : Nat) (w0 : World) (hb : Below B0 w0 w) (hBg : B0 ≤ g)
    (h : ∀ w', Hid (Row w' g t xs) → Below B0 w0 w' → wpList P ops Q rest (a.put o.dst (goInt xs.length)) w') : wpList P ops Q (o :: rest) a w := by
  obtain ⟨i0, hi, _, hz1, _⟩ := info_parts hsz
  have hlen : (xs.map bv).length = Nat.min xs.length xs.length := by rw [List.length_map]; exact (Nat.min_self _).symm
  refine wpList_copy_splice hgd d s dT sT ho elem hu (by rw [hi]; exact congrArg some hz1) (some ⟨g, 0, none⟩) A xs.length dc xs.length c hd hs g 0 ((List.replicate xs.length (0 : UInt8)).map bv) t hrow (xs.map bv) hlen ?_ ?_ ?_ B0 w0 hb hBg ?_
  · intro hpos
    rw [List.length_map] at hpos
    obtain ⟨b, off, rfl, _, hc⟩ := hr.cells hpos
    refine ⟨rfl, _, rfl, fun j v hj => ?_⟩
    rw [List.getElem?_map] at hj
    rcases Nat.lt_or_ge j xs.length with hl | hl
    · rw [Go.WideShapes.add_plain, hc j hl]
      rw [List.getElem?_eq_getElem hl] at hj
      simpa [List.getD, List.getElem?_eq_getElem hl] using hj
    · rw [List.getElem?_eq_none hl] at hj
      cases hj
  · simp
  · intro v hv
    obtain ⟨_, _, rfl⟩ := List.mem_map.1 hv
    rfl
  · intro w' hH hb'
    rw [List.length_map]
    refine h w' ?_ hb'
    have e : splice ((List.replicate xs.length (0 : UInt8)).map bv) 0 (xs.map bv) = xs.map bv := by
      unfold splice
      simp
    have hH2 : w'.heap[g]? = some (.cells (splice ((List.replicate xs.length (0 : UInt8)).map bv) 0 (xs.map bv)).toArray t (0, 0)) := hH
    rw [e] at hH2
    exact hH2

set_option maxHeartbeats 400000 in
set_option maxRecDepth 5000000 in
theorem copied_any (w : World) (A : Option Addr) (c : Nat) (xs : List UInt8) (h : Rd w w.heap.size A c xs) (hl : xs.length ≤ 5000000) :
    Calls Tryd.prog 47 #[.slice A xs.length c] w (ResN w xs) := by
  have hmk := fun W : World => make_full (xs.length : Int) W (by omega) (by omega)
  rw [show (xs.length : Int).toNat = xs.length from by omega] at hmk
  have hrow := Row.made w xs.length 5
  have hb := (Below.refl w.heap.size w).alloc (Nat.le_refl _) (.cells (madeCells #[.int .u8 0] xs.length) 5)
  have hr := h.below hb
  go_enter Tryd.func47, Tryd.ntmps47
  go_wp2_with (with_reducible refine wpl_copy rfl _ _ _ _ 5 rfl Tryd.underlying22 Tryd.info5 w.heap.size 5 xs.length A w.heap.size c xs hrow rfl hr rfl w.heap.size w hb (Nat.le_refl _) ?_; intro w3 hrow3 hb3)
  go_ret
  exact ⟨_, rfl, Nat.le_refl _, hrow3.out, hb3⟩

/-- A new row of headers is returned. -/
def ResH (w : World) (ps : List (List UInt8)) (e : Ending) (w' : World) : Prop :=
  ∃ g, e = .returned (.slice (some ⟨g, 0, none⟩) ps.length ps.length) ∧ Hdrs w w' g ps ∧ Below w.heap.size w w'

theorem Rds.heads {w : World} {A : Option Addr} {c : Nat} {ps : List (List UInt8)} (h : Rds w w.heap.size A c ps) :
    ∃ vs : List Value, vs.length = ps.length ∧ (∀ v ∈ vs, v.oneCell' = true) ∧ (∀ j, j < ps.length → ∃ A c, vs[j]? = some (.slice A (ps.getD j []).length c) ∧ Rd w w.heap.size A c (ps.getD j [])) ∧
      (0 < vs.length → ∃ b off, A = some ⟨b, off, none⟩ ∧ b < w.heap.size ∧ ∀ j v, vs[j]? = some v → w.cell? ⟨b, off + j, none⟩ = some v) := by
  rcases Nat.eq_zero_or_pos ps.length with h0 | h0
  · exact ⟨[], by rw [h0]; rfl, by simp, fun j hj => absurd hj (by omega), by simp⟩
  · obtain ⟨b, off, rfl, hb, hc⟩ := h.cells h0
    have hget : ∀ j : Nat, j < ps.length → ∃ v A' c', v = Value.slice A' (ps.getD j []).length c' ∧ w.cell? ⟨b, off + j, none⟩ = some v ∧ Rd w w.heap.size A' c' (ps.getD j []) := fun j hj => by
      obtain ⟨A', c', h1, h2⟩ := hc j hj
      exact ⟨_, A', c', rfl, h1, h2⟩
    have hat : ∀ j : Nat, j < ps.length → ((List.range ps.length).map fun j => (w.cell? ⟨b, off + j, none⟩).getD (.slice none 0 0))[j]? = w.cell? ⟨b, off + j, none⟩ := fun j hj => by
      obtain ⟨v, _, _, rfl, h1, _⟩ := hget j hj
      simp [List.getElem?_map, List.getElem?_range hj, h1]
    refine ⟨(List.range ps.length).map fun j => (w.cell? ⟨b, off + j, none⟩).getD (.slice none 0 0), by simp, fun v hv => ?_, fun j hj => ?_, fun _ => ⟨b, off, rfl, hb, fun j v hj => ?_⟩⟩
    · obtain ⟨j, hj, rfl⟩ := List.mem_map.1 hv
      obtain ⟨v, _, _, rfl, h1, _⟩ := hget j (by simpa using hj)
      rw [h1]
      rfl
    · obtain ⟨v, A', c', rfl, h1, h2⟩ := hget j hj
      exact ⟨A', c', by rw [hat j hj, h1], h2⟩
    · rcases Nat.lt_or_ge j ps.length with hl | hl
      · rw [← hat j hl]; exact hj
      · rw [List.getElem?_eq_none (by simpa using hl)] at hj
        cases hj

theorem made_eq (n : Nat) : madeCells #[.slice none 0 0] n = (List.replicate n (Value.slice none 0 0)).toArray := by
  apply Array.ext
  · simp [size_madeCells]
  · intro i h1 h2
    simp [madeCells, Nat.mod_one]

set_option maxHeartbeats 400000 in
set_option maxRecDepth 5000000 in
theorem copiedP_any (w : World) (A : Option Addr) (c : Nat) (ps : List (List UInt8)) (h : Rds w w.heap.size A c ps) (hl : ps.length ≤ 5000000) :
    Calls Tryd.prog 71 #[.slice A ps.length c] w (ResH w ps) := by
  have hmk := fun W : World => makeP_full (ps.length : Int) W (by omega) (by omega)
  rw [show (ps.length : Int).toNat = ps.length from by omega] at hmk
  have hb := (Below.refl w.heap.size w).alloc (Nat.le_refl _) (.cells (madeCells #[.slice none 0 0] ps.length) 22)
  have hrow : (w.alloc (.cells (madeCells #[.slice none 0 0] ps.length) 22)).heap[w.heap.size]? = some (.cells (List.replicate ps.length (Value.slice none 0 0)).toArray 22 (0, 0)) := by
    rw [← made_eq]; exact heap_alloc_new w _
  obtain ⟨vs, hvl, hv1, hvs, hsrc⟩ := h.heads
  have hn : vs.length = Nat.min ps.length ps.length := by rw [hvl]; exact (Nat.min_self _).symm
  have hpos : 0 < vs.length → (some (⟨w.heap.size, 0, none⟩ : Addr)) = some ⟨w.heap.size, 0, none⟩ ∧ ∃ ad, A = some ad ∧ ∀ j v, vs[j]? = some v → (w.alloc (.cells (madeCells #[.slice none 0 0] ps.length) 22)).cell? (ad.add j) = some v := fun h0 => by
    obtain ⟨b, off, rfl, hlt, hc⟩ := hsrc h0
    exact ⟨rfl, _, rfl, fun j v hj => by rw [Go.WideShapes.add_plain]; exact (hb.cell (p := ⟨b, off + j, none⟩) hlt).trans (hc j v hj)⟩
  have hfit : 0 + vs.length ≤ (List.replicate ps.length (Value.slice none 0 0)).length := by simp [hvl]
  have Hvl := Lib.hid hvl
  have Hv1 := Lib.hid hv1
  have Hvs := Lib.hid hvs
  have Hpos := Lib.hid hpos
  have Hn := Lib.hid hn
  have Hrow := Lib.hid hrow
  clear hvl hv1 hvs hsrc hn hpos hrow
  go_enter Tryd.func71, Tryd.ntmps71
  go_wp2_with (with_reducible refine wpList_copy_splice rfl _ _ 79 79 rfl 22 Tryd.underlying79 (by kernel_rfl) (some ⟨w.heap.size, 0, none⟩) A ps.length ps.length ps.length c rfl rfl w.heap.size 0 (List.replicate ps.length (Value.slice none 0 0)) 22 Hrow.out vs Hn.out Hpos.out hfit Hv1.out w.heap.size w hb (Nat.le_refl _) ?_; intro w3 hrow3 hb3)
  go_ret
  have hH2 : w3.heap[w.heap.size]? = some (.cells (splice (List.replicate ps.length (Value.slice none 0 0)) 0 vs).toArray 22 (0, 0)) := hrow3
  have e : splice (List.replicate ps.length (Value.slice none 0 0)) 0 vs = vs := by
    unfold splice
    rw [Hvl.out]
    simp
  rw [e] at hH2
  exact ⟨_, rfl, ⟨Nat.le_refl _, vs, hH2, Hvl.out, Hvs.out⟩, hb3⟩

/-- A new list of packets is returned. -/
def ResP (w : World) (ps : List (List UInt8)) (e : Ending) (w' : World) : Prop :=
  ∃ g, e = .returned (.slice (some ⟨g, 0, none⟩) ps.length ps.length) ∧ News w' w.heap.size g ps ∧ Below w.heap.size w w'

set_option maxHeartbeats 800000 in
set_option maxRecDepth 5000000 in
theorem copies_any (w : World) (A : Option Addr) (c : Nat) (ps : List (List UInt8)) (h : Rds w w.heap.size A c ps) (hs : Sml ps) :
    Calls Tryd.prog 61 #[.slice A ps.length c] w (ResP w ps) := by
  have hl := hs.1
  go_enter Tryd.func61, Tryd.ntmps61
  go_wp2_with fail
  refine (copiedP_any w A c ps h hl).mono ?_
  rintro e w1 ⟨g, rfl, hh, hb1⟩
  have hhalf := hh.half hb1
  clear hh hb1
  go_wp2
  go_loopg [10] ps.length (fun gh i wr => ∃ k : Nat, k + gh = ps.length ∧ i = .int .i64 k ∧ Half w wr g k ps)
  case atStart => exact ⟨0, by omega, rfl, hhalf⟩
  case round =>
    obtain ⟨k, hkg, rfl, hhk⟩ := hrel
    by_cases hk : k < ps.length
    · obtain ⟨A1, c1, hc1, hf1, hr1⟩ := hhk.load hk
      have hx := hs.at_ k
      have hst := fun (w' : World) (q : Nat) (hb' : Below wr.heap.size wr w') (hq : wr.heap.size ≤ q) (hr : Row w' q 5 (ps.getD k [])) => hhk.step hk hb' hq hr
      generalize ps.getD k [] = xs at hc1 hr1 hx hst
      have Hst := Lib.hid hst
      clear hst
      go_wp2_with fail
      refine (copied_any wr A1 c1 xs hr1 hx).mono ?_
      rintro e w2 ⟨q, rfl, hq, hrow, hb2⟩
      obtain ⟨hcc, hff, hh2⟩ := Hst.out w2 q hb2 hq hrow
      rw [hc1] at hcc
      clear hc1 hf1 Hst
      go_wp2
      go_roundg (gk - 1)
      case measure => omega
      case rel => exact ⟨k + 1, by omega, by go_num, hh2⟩
    · obtain rfl : k = ps.length := by omega
      go_wp2
      go_ret
      exact ⟨g, rfl, hhk.news, hhk.bel⟩

end Go.Proofs.YtkfkcpogcobmbaaDoor.Tg

namespace Go.Proofs.YtkfkcpogcobmbaaDoor.Tg
open Go Go.RowKit Go.Proofs.YtkfkcpogcobmbaaDoor

/-- A sender or a receiver as a value. -/
abbrev sv (t : Bool) (v : Value) : Value := .agg #[.bool t, v]

set_option maxHeartbeats 400000 in
set_option maxRecDepth 5000000 in
theorem has_no (w : World) (t : Bool) (A : Option Addr) (c : Nat) : Calls Tryd.prog 46 #[sv t (.slice A 0 c)] w (ResB w false) := by
  go_enter Tryd.func46, Tryd.ntmps46
  go_wp2
  go_ret
  exact ⟨rfl, (Below.refl _ _).alloc (Nat.le_refl _) _⟩
set_option maxHeartbeats 400000 in
set_option maxRecDepth 5000000 in
theorem has_yes (w : World) (t : Bool) (A : Option Addr) (n c : Nat) (hn : 0 < n) : Calls Tryd.prog 46 #[sv t (.slice A n c)] w (ResB w true) := by
  have h1 : (0 : Int) < (n : Int) := by omega
  go_enter Tryd.func46, Tryd.ntmps46
  go_wp2
  go_ret
  exact ⟨rfl, (Below.refl _ _).alloc (Nat.le_refl _) _⟩

theorem sliceP_from (A : Option Addr) (n c : Nat) (l : Int) (W : World) (h0 : 0 ≤ l) (h1 : l ≤ n) : (Instr.slice 79 (.slice A n c) (some (.int .i64 l)) none none).run Tryd.prog W = .ok (sliced A l.toNat n c 1) W := by
  have hs : (sizeOf (Tryd.prog.elem 79)).run Tryd.prog W = .ok 1 W := by kernel_rfl
  rw [run_slice_l W 79 A n c (by kernel_rfl) .i64 l h0 h1, hs]
  rfl

/-- A sender behind an acknowledgement is returned. -/
def ResA (w : World) (t : Bool) (ps : List (List UInt8)) (e : Ending) (w' : World) : Prop :=
  ∃ A c, e = .returned (sv t (.slice A ps.length c)) ∧ Rds w' w'.heap.size A c ps ∧ Below w.heap.size w w'

set_option maxHeartbeats 400000 in
set_option maxRecDepth 5000000 in
theorem ack_core (w : World) (t : Bool) (A A' : Option Addr) (n m c c' : Nat) (hn : 0 < n) (hcut : sliced A 1 n c 1 = .slice A' m c') :
    Calls Tryd.prog 48 #[sv t (.slice A n c)] w fun e w' => e = .returned (sv (!t) (.slice A' m c')) ∧ Below w.heap.size w w' := by
  have hsx := fun W : World => sliceP_from A n c 1 W (by omega) (by omega)
  rw [show (1 : Int).toNat = 1 from rfl, hcut] at hsx
  have Hb := Lib.hid (fun (o1 o2 : Obj) => ((Below.refl w.heap.size w).alloc (Nat.le_refl _) o1).alloc (by simp) o2)
  clear hcut
  go_enter Tryd.func48, Tryd.ntmps48
  go_wp2
  go_region
  all_goals (go_wp2; refine bodyPost_ret (v := sv (!t) (.slice A' m c')) (by simp [results, Tryd.results48, go_sem]) rfl ?_; exact ⟨rfl, (Hb.out _ _).drew⟩)
theorem ack_any (w : World) (t : Bool) (A : Option Addr) (c : Nat) (ps : List (List UInt8)) (h : Rds w w.heap.size A c ps) (hn : 0 < ps.length) :
    Calls Tryd.prog 48 #[sv t (.slice A ps.length c)] w (ResA w (!t) (ps.drop 1)) := by
  obtain ⟨A', c', hcut, hr⟩ := h.from_ (k := 1) (by omega)
  have hlen : (ps.drop 1).length = ps.length - 1 := by rw [List.length_drop]
  rw [← hlen] at hcut
  exact (ack_core w t A A' _ _ c c' hn hcut).mono fun e w' ⟨h1, h2⟩ => ⟨A', c', h1, hr.belowTop h2, h2⟩

theorem clips_any (w : World) (A : Option Addr) (n c : Nat) (hle : n ≤ c) (hcap : c ≤ 9223372036854775807) : Calls Tryd.prog 118 #[.slice A n c] w fun e w' => e = .returned (.slice A n n) ∧ w = w' := by
  go_enter Tryd.func118, Tryd.ntmps118
  go_wp2
  go_ret
  exact ⟨rfl, rfl⟩

/-- A sender or a receiver is returned. -/
def ResS (w : World) (t : Bool) (v : Value) (e : Ending) (w' : World) : Prop := e = .returned (sv t v) ∧ Below w.heap.size w w'

set_option maxHeartbeats 400000 in
set_option maxRecDepth 5000000 in
theorem clipped_any (w : World) (t : Bool) (A : Option Addr) (n c : Nat) (hle : n ≤ c) (hcap : c ≤ 9223372036854775807) :
    Calls Tryd.prog 116 #[sv t (.slice A n c)] w (ResS w t (.slice A n n)) := by
  have hb := fun (o1 o2 : Obj) => ((Below.refl w.heap.size w).alloc (Nat.le_refl _) o1).alloc (by simp) o2
  have Hb := Lib.hid hb
  clear hb
  go_enter Tryd.func116, Tryd.ntmps116
  go_wp2
  go_region_with (go_at_call 118; refine (clips_any _ A n c hle hcap).mono ?_; rintro e w' ⟨rfl, rfl⟩)
  all_goals (go_wp2; refine bodyPost_ret (v := sv t (.slice A n n)) (by simp [results, Tryd.results116, go_sem]) rfl ?_; exact ⟨rfl, (Hb.out _ _).drew⟩)

/-- A new sender or receiver is returned. -/
def ResNS (w : World) (t : Bool) (ps : List (List UInt8)) (e : Ending) (w' : World) : Prop :=
  ∃ g, e = .returned (sv t (.slice (some ⟨g, 0, none⟩) ps.length ps.length)) ∧ News w' w.heap.size g ps ∧ Below w.heap.size w w'

end Go.Proofs.YtkfkcpogcobmbaaDoor.Tg

namespace Go.Proofs.YtkfkcpogcobmbaaDoor.Tg
open Go Go.RowKit Go.Proofs.YtkfkcpogcobmbaaDoor

/-- Behind a box, a result's place and a call. -/
theorem box_call {w W w1 : World} {cs cs2 : Array Value} {T T2 : TypeId} (hb : Below W.heap.size W w1) (hW : W = ((w.alloc (.cells cs T)).alloc (.cells cs2 T2)).drew) :
    w.heap.size + 1 < w1.heap.size ∧ w1.heap[w.heap.size]? = some (.cells cs T (0, 0)) ∧ w1.heap[w.heap.size + 1]? = some (.cells cs2 T2 (0, 0)) ∧ Below w.heap.size w w1 := by
  have hos : W.os = w.os := by rw [hW]; rfl
  have htp : W.tape = w.tape := by rw [hW]; rfl
  have hout : W.output = w.output := by rw [hW]; rfl
  replace hW : W.heap = ((w.alloc (.cells cs T)).alloc (.cells cs2 T2)).heap := by rw [hW]; rfl
  have hsz : W.heap.size = w.heap.size + 1 + 1 := by rw [hW]; simp
  have hs := hb.size
  have hbW : Below w.heap.size w W := by
    have hb0 := ((Below.refl w.heap.size w).alloc (Nat.le_refl _) (.cells cs T)).alloc (by simp) (.cells cs2 T2)
    exact ⟨hos, htp, hout, by omega, fun k hk => by rw [hW]; exact hb0.block k hk⟩
  refine ⟨by omega, ?_, ?_, hbW.trans (hb.mono hbW.size)⟩
  · rw [hb.block _ (by omega), hW]
    exact (Below.heap_alloc _ _ _ (by simp)).trans (heap_alloc_new w _)
  · rw [hb.block _ (by omega), hW]
    have := heap_alloc_new (w.alloc (.cells cs T)) (.cells cs2 T2)
    simpa using this

/-- What holds behind the call that copies, of an owner of packets. -/
theorem News.stores {w1 : World} {base g p T : Nat} {ps : List (List UInt8)} {cs : Array Value} (h : News w1 base g ps) (hp : w1.heap[p]? = some (.cells cs T (0, 0))) (h1 : T ≠ 22) (h2 : T ≠ 5) (i : Nat) (u : Value) :
    News (w1.setCell ⟨p, i, none⟩ u) base g ps := by
  obtain ⟨hge, vs, e1, e2, e3⟩ := h
  have hgr := grown_setCell w1 ⟨p, i, none⟩ u
  refine ⟨hge, vs, block_grown e1 hgr (fun e => block_ne hp e1 h1 (Option.some.inj e).symm), e2, fun j hj => ?_⟩
  obtain ⟨q, k1, k2, k3⟩ := e3 j hj
  exact ⟨q, k1, k2, block_grown k3 hgr (fun e => block_ne hp k3 h2 (Option.some.inj e).symm)⟩

theorem set2 {w : World} {p T : Nat} {a b : Value} (h : w.heap[p]? = some (.cells #[a, b] T (0, 0))) (u v : Value) : ((w.setCell ⟨p, 0, none⟩ u).setCell ⟨p, 1, none⟩ v).heap[p]? = some (.cells #[u, v] T (0, 0)) := by
  have := block_set (block_set h 0 u) 1 v
  simpa using this
theorem below2 {B p : Nat} {w0 w : World} (h : Below B w0 w) (hp : B ≤ p) (u v : Value) : Below B w0 ((w.setCell ⟨p, 0, none⟩ u).setCell ⟨p, 1, none⟩ v) := (h.setCell (p := ⟨p, 0, none⟩) hp u).setCell (p := ⟨p, 1, none⟩) hp v
theorem News.stores2 {w1 : World} {base g p T : Nat} {ps : List (List UInt8)} {a b : Value} (h : News w1 base g ps) (hp : w1.heap[p]? = some (.cells #[a, b] T (0, 0))) (h1 : T ≠ 22) (h2 : T ≠ 5) (u v : Value) :
    News ((w1.setCell ⟨p, 0, none⟩ u).setCell ⟨p, 1, none⟩ v) base g ps := (h.stores hp h1 h2 0 u).stores (block_set hp 0 u) h1 h2 1 v
theorem results_row_tmp {P : Program} {fn : Func} {p u : Tmp} {ty : TypeId} (h : fn.results = #[.cell p ty, .tmp u]) (tmps : Array Value) (w : World) (g : Nat) (t : TypeId) (cs : Array Value) (fr : Nat × Nat) (d : TypeDesc)
    (hp : tmps.getD p undef = .pointer (some ⟨g, 0, none⟩)) (hg : w.heap[g]? = some (.cells cs t fr))
    (hu : P.underlying ty = some d) (hd : (match d with | .struct _ | .array _ _ => true | _ => false) = true) (hi : (P.info? ty).map (·.size) = some cs.size) :
    (results fn tmps).run P w = .ok (.tuple #[.agg cs, tmps.getD u undef]) w := by
  have hp' : tmps[p]?.getD undef = .pointer (some ⟨g, 0, none⟩) := by simpa using hp
  simp [results, h, hp', asAddr, run_loadVar_row w g t ty cs fr d hg hu hd hi]
theorem results_row_row {P : Program} {fn : Func} {p p2 : Tmp} {ty ty2 : TypeId} (h : fn.results = #[.cell p ty, .cell p2 ty2]) (tmps : Array Value) (w : World) (g g2 : Nat) (t t2 : TypeId) (cs cs2 : Array Value) (fr fr2 : Nat × Nat) (d d2 : TypeDesc)
    (hp : tmps.getD p undef = .pointer (some ⟨g, 0, none⟩)) (hg : w.heap[g]? = some (.cells cs t fr))
    (hu : P.underlying ty = some d) (hd : (match d with | .struct _ | .array _ _ => true | _ => false) = true) (hi : (P.info? ty).map (·.size) = some cs.size)
    (hp2 : tmps.getD p2 undef = .pointer (some ⟨g2, 0, none⟩)) (hg2 : w.heap[g2]? = some (.cells cs2 t2 fr2))
    (hu2 : P.underlying ty2 = some d2) (hd2 : (match d2 with | .struct _ | .array _ _ => true | _ => false) = true) (hi2 : (P.info? ty2).map (·.size) = some cs2.size) :
    (results fn tmps).run P w = .ok (.tuple #[.agg cs, .agg cs2]) w := by
  have hp' : tmps[p]?.getD undef = .pointer (some ⟨g, 0, none⟩) := by simpa using hp
  have hp2' : tmps[p2]?.getD undef = .pointer (some ⟨g2, 0, none⟩) := by simpa using hp2
  simp [results, h, hp', hp2', asAddr, run_loadVar_row w g t ty cs fr d hg hu hd hi, run_loadVar_row w g2 t2 ty2 cs2 fr2 d2 hg2 hu2 hd2 hi2]

set_option maxHeartbeats 800000 in
set_option maxRecDepth 5000000 in
theorem ownS_any (w : World) (t : Bool) (A : Option Addr) (c : Nat) (ps : List (List UInt8)) (h : Rds w w.heap.size A c ps) (hs : Sml ps) :
    Calls Tryd.prog 45 #[sv t (.slice A ps.length c)] w (ResNS w t ps) := by
  have hb0 := Lib.hid (((Below.refl w.heap.size w).alloc (Nat.le_refl _) (.cells #[.bool t, .slice A ps.length c] 82)).alloc (by simp) (.cells #[.bool false, .slice none 0 0] 82))
  go_enter Tryd.func45, Tryd.ntmps45
  go_wp2
  go_region_with (go_at_call 61; go_loud (refine (copies_any _ A c ps ((h.below hb0.out.drew).more hb0.out.drew.size) hs).mono ?_; rintro e w1 ⟨g, rfl, hn, hb1⟩; obtain ⟨hz, k1, k2, hb⟩ := box_call hb1 rfl; have c0 := block_at k1 (i := 0) (v := .bool t) rfl; have c1 := block_at k1 (i := 1) (v := .slice A ps.length c) rfl; have d0 := block_at k2 (i := 0) (v := .bool false) rfl; have d1 := block_at k2 (i := 1) (v := .slice none 0 0) rfl; have f0 := block_free k2 0; have f1 := block_free k2 1))
  all_goals
    clear c0 c1 d0 d1 f0 f1 hb1
    go_wp2
    refine bodyPost_ret (results_cell_row rfl _ _ (w.heap.size + 1) _ _ _ _ rfl (set2 k2 _ _) Tryd.underlying82 rfl (by kernel_rfl)) rfl ?_
    exact ⟨g, rfl, ((hn.mono hb0.out.drew.size).stores2 k2 (by decide) (by decide) _ _), below2 hb (by omega) _ _⟩

set_option maxHeartbeats 800000 in
set_option maxRecDepth 5000000 in
theorem ownR_any (w : World) (t : Bool) (A : Option Addr) (c : Nat) (ps : List (List UInt8)) (h : Rds w w.heap.size A c ps) (hs : Sml ps) :
    Calls Tryd.prog 117 #[sv t (.slice A ps.length c)] w (ResNS w t ps) := by
  have hb0 := Lib.hid (((Below.refl w.heap.size w).alloc (Nat.le_refl _) (.cells #[.bool t, .slice A ps.length c] 87)).alloc (by simp) (.cells #[.bool false, .slice none 0 0] 87))
  go_enter Tryd.func117, Tryd.ntmps117
  go_wp2
  go_region_with (go_at_call 61; go_loud (refine (copies_any _ A c ps ((h.below hb0.out.drew).more hb0.out.drew.size) hs).mono ?_; rintro e w1 ⟨g, rfl, hn, hb1⟩; obtain ⟨hz, k1, k2, hb⟩ := box_call hb1 rfl; have c0 := block_at k1 (i := 0) (v := .bool t) rfl; have c1 := block_at k1 (i := 1) (v := .slice A ps.length c) rfl; have d0 := block_at k2 (i := 0) (v := .bool false) rfl; have d1 := block_at k2 (i := 1) (v := .slice none 0 0) rfl; have f0 := block_free k2 0; have f1 := block_free k2 1))
  all_goals
    clear c0 c1 d0 d1 f0 f1 hb1
    go_wp2
    refine bodyPost_ret (results_cell_row rfl _ _ (w.heap.size + 1) _ _ _ _ rfl (set2 k2 _ _) Tryd.underlying87 rfl (by kernel_rfl)) rfl ?_
    exact ⟨g, rfl, ((hn.mono hb0.out.drew.size).stores2 k2 (by decide) (by decide) _ _), below2 hb (by omega) _ _⟩

end Go.Proofs.YtkfkcpogcobmbaaDoor.Tg

namespace Go.Proofs.YtkfkcpogcobmbaaDoor.Tg
open Go Go.RowKit Go.Proofs.YtkfkcpogcobmbaaDoor

/-- The slice v, of the call's own, holds slices that read as ps in the world w0. -/
def Pks (w0 w : World) (v : Value) (ps : List (List UInt8)) : Prop :=
  ∃ vs, w.ownsRow w0.heap.size 22 1 v ps.length vs ∧ ∀ j, j < ps.length → ∃ A c, vs[j]? = some (.slice A (ps.getD j []).length c) ∧ Rd w0 w0.heap.size A c (ps.getD j [])
theorem Pks.nil (w0 w : World) : Pks w0 w (.slice none 0 0) [] := ⟨[], World.ownsRow_nil _ _ _ _, fun j hj => absurd hj (by simp)⟩
theorem none_or (v : Value) : v.ownBlock = none ∨ v.ownBlock ≠ none := by cases v.ownBlock <;> simp
theorem Pks.kept {w0 w w' : World} {v : Value} {ps : List (List UInt8)} {row : Option Nat} (h : Pks w0 w v ps) (hg : w.grownBy w' row) (hne : v.ownBlock = none ∨ v.ownBlock ≠ row) : Pks w0 w' v ps := by
  obtain ⟨vs, ho, hv⟩ := h
  exact ⟨vs, ho.kept hg hne, hv⟩
theorem Pks.shape {w0 w : World} {v : Value} {ps : List (List UInt8)} (h : Pks w0 w v ps) : ∃ A c, v = .slice A ps.length c := by
  obtain ⟨vs, ⟨_, h2⟩, hv⟩ := h
  rcases h2 with ⟨rfl, hn⟩ | ⟨g, cap, cur, rfl, _⟩
  · exact ⟨none, 0, by rw [hn]⟩
  · exact ⟨_, _, rfl⟩
theorem Pks.rds {w0 w : World} {v : Value} {ps : List (List UInt8)} (h : Pks w0 w v ps) (hb : Below w0.heap.size w0 w) : ∃ A c, v = .slice A ps.length c ∧ Rds w w.heap.size A c ps := by
  obtain ⟨vs, ⟨_, h2⟩, hv⟩ := h
  rcases h2 with ⟨rfl, hn⟩ | ⟨g, cap, cur, rfl, _, hh, hle, hm, hcs, ht⟩
  · exact ⟨none, 0, by rw [hn], by rw [List.eq_nil_of_length_eq_zero hn]; exact ⟨Nat.le_refl _, by omega, fun h => absurd h (by simp)⟩⟩
  · refine ⟨_, _, rfl, hle, by simpa [maxLen] using hm, fun _ => ⟨g, 0, rfl, (Array.getElem?_eq_some_iff.1 hh).1, fun j hj => ?_⟩⟩
    obtain ⟨A', c', e1, e2⟩ := hv j hj
    refine ⟨A', c', ?_, (e2.below hb).more hb.size⟩
    rw [cell_of_row w g (0 + j) cur _ (0, 0) hh]
    rw [← ht, List.getElem?_take, if_pos (by omega)] at e1
    rw [Nat.zero_add, ← Array.getElem?_toList, e1]

/-- What has been taken: the argument, without room behind it, or a row of the call's own. -/
def Gt (w0 w : World) (v : Value) (ps : List (List UInt8)) : Prop :=
  (∃ A, v = .slice A ps.length ps.length ∧ Rds w0 w0.heap.size A ps.length ps) ∨ Pks w0 w v ps
theorem Gt.kept {w0 w w' : World} {v : Value} {ps : List (List UInt8)} {row : Option Nat} (h : Gt w0 w v ps) (hg : w.grownBy w' row) (hne : ∀ g, row = some g → ∀ cs, w.heap[g]? ≠ some (.cells cs 22 (0, 0))) : Gt w0 w' v ps := by
  rcases h with h | h
  · exact .inl h
  · refine .inr (h.kept hg ?_)
    obtain ⟨vs, ho, _⟩ := h
    rcases ho.2 with ⟨rfl, _⟩ | ⟨g, cap, cur, rfl, _, hh, _⟩
    · exact .inl rfl
    · refine .inr fun e => ?_
      exact hne g e.symm _ hh
theorem Gt.below {w0 w w' : World} {v : Value} {ps : List (List UInt8)} (h : Gt w0 w v ps) (hb : Below w.heap.size w w') : Gt w0 w' v ps :=
  h.kept (grown_of_below hb none) fun g e => by cases e
theorem Gt.shape {w0 w : World} {v : Value} {ps : List (List UInt8)} (h : Gt w0 w v ps) : ∃ A c, v = .slice A ps.length c := by
  rcases h with ⟨A, rfl, h⟩ | h
  · exact ⟨A, _, rfl⟩
  · exact h.shape
theorem Gt.rds {w0 w : World} {v : Value} {ps : List (List UInt8)} (h : Gt w0 w v ps) (hb : Below w0.heap.size w0 w) : ∃ A c, v = .slice A ps.length c ∧ Rds w w.heap.size A c ps := by
  rcases h with ⟨A, rfl, h⟩ | h
  · exact ⟨A, _, rfl, (h.below hb).more hb.size⟩
  · exact h.rds hb
/-- The block into which an append may write. -/
theorem Gt.block {w0 w : World} {v : Value} {ps : List (List UInt8)} (h : Gt w0 w v ps) (hb : Below w0.heap.size w0 w) : ∀ g, v.ownBlock = some g → g < w0.heap.size ∨ ps = [] ∨ ∃ cs, w.heap[g]? = some (.cells cs 22 (0, 0)) := by
  intro g hg
  rcases h with ⟨A, rfl, h⟩ | ⟨vs, ho, _⟩
  · rcases Nat.eq_zero_or_pos ps.length with h0 | h0
    · exact .inr (.inl (List.eq_nil_of_length_eq_zero h0))
    · obtain ⟨b, off, rfl, hlt, _⟩ := h.cells h0
      obtain rfl : b = g := by simpa [Value.ownBlock] using hg
      exact .inl hlt
  · rcases ho.2 with ⟨rfl, _⟩ | ⟨g', cap, cur, rfl, _, hh, _⟩
    · cases hg
    · obtain rfl : g' = g := by simpa [Value.ownBlock] using hg
      exact .inr (.inr ⟨_, hh⟩)

theorem grown_mono {w w' : World} (h : w.grownBy w' none) (r : Option Nat) : w.grownBy w' r := ⟨h.os, h.tape, h.output, h.size, fun k hk _ => h.block k hk (by simp)⟩
/-- One header more behind the others. -/
theorem heads_snoc {w0 : World} {ps : List (List UInt8)} {vs : List Value} {A : Option Addr} {c : Nat} {ys : List UInt8} (hl : vs.length = ps.length) (h : ∀ j, j < ps.length → ∃ A c, vs[j]? = some (.slice A (ps.getD j []).length c) ∧ Rd w0 w0.heap.size A c (ps.getD j []))
    (hr : Rd w0 w0.heap.size A c ys) : ∀ j, j < (ps ++ [ys]).length → ∃ A' c', (vs ++ [.slice A ys.length c])[j]? = some (.slice A' ((ps ++ [ys]).getD j []).length c') ∧ Rd w0 w0.heap.size A' c' ((ps ++ [ys]).getD j []) := by
  intro j hj
  rw [List.length_append, List.length_cons, List.length_nil] at hj
  rcases Nat.lt_or_ge j ps.length with hjl | hjl
  · obtain ⟨A', c', e1, e2⟩ := h j hjl
    rw [getD_append_lt hjl]
    exact ⟨A', c', by rw [List.getElem?_append, if_pos (by omega)]; exact e1, e2⟩
  · have hj2 : j = ps.length := by omega
    subst hj2
    rw [getD_append_ge (Nat.le_refl _), Nat.sub_self]
    exact ⟨A, c, by rw [List.getElem?_append, if_neg (by omega), hl]; simp, hr⟩

/-- append of a packet: the run; only a row of the call's own may be written. -/
theorem run_appendG {P : Program} {w0 w : World} {ty : TypeId} (ht : P.underlying 79 = some (.slice 22))
    (hinf : (P.info? 22).map (fun i => (i.zero, i.size, i.bytes)) = some (some (.slice none 0 0), 1, 24)) (hb : Below w0.heap.size w0 w) {v : Value} {ps : List (List UInt8)} (hg : Gt w0 w v ps)
    {A : Option Addr} {c : Nat} {ys : List UInt8} (hr : Rd w0 w0.heap.size A c ys) (g1 : Nat) (hc : w.cell? ⟨g1, 0, none⟩ = some (.slice A ys.length c)) (hl : ps.length ≤ 4000000) :
    ∃ v' w' row, (Builtin.append_ #[79, 79] ty #[v, .slice (some ⟨g1, 0, none⟩) 1 1]).run P w = .ok v' w' ∧ Pks w0 w' v' (ps ++ [ys]) ∧ w.grownBy w' row ∧ (∀ g, row = some g → w0.heap.size ≤ g ∧ ∃ cs, w.heap[g]? = some (.cells cs 22 (0, 0))) := by
  obtain ⟨i0, hi, hz0, hz1, hz2⟩ := info_parts hinf
  have hnews : ∀ j u, [Value.slice A ys.length c][j]? = some u → w.cell? ((⟨g1, 0, none⟩ : Addr).add j) = some u := by
    intro j u hj
    match j, hj with
    | 0, hj =>
      simp at hj
      subst hj
      simpa [Addr.add] using hc
  have own : ∀ v, Pks w0 w v ps → ∃ v' w' row, (Builtin.append_ #[79, 79] ty #[v, .slice (some ⟨g1, 0, none⟩) 1 1]).run P w = .ok v' w' ∧ Pks w0 w' v' (ps ++ [ys]) ∧ w.grownBy w' row ∧ (∀ g, row = some g → w0.heap.size ≤ g ∧ ∃ cs, w.heap[g]? = some (.cells cs 22 (0, 0))) := by
    intro v ⟨vs, ho, hv⟩
    have hvl : vs.length = ps.length := by have := ho.1; omega
    obtain ⟨v', w', h0, h1, h2, _, _⟩ := run_append_own_at (P := P) w w0.heap.size 79 ty 22 i0 (.slice none 0 0) 1 24 ht hi hz0 hz1 hz2 rfl (by decide) v ps.length vs ho ⟨g1, 0, none⟩ 1 1 [.slice A ys.length c] rfl hnews
      (fun z hz => by simp at hz; subst hz; rfl) (by unfold maxLen; omega) (by omega) hb.size
    refine ⟨v', w', v.ownBlock, h0, ⟨vs ++ [.slice A ys.length c], by simpa using h1, heads_snoc hvl hv hr⟩, h2, fun g hg => ⟨(ho.lt g hg).1, ?_⟩⟩
    rcases ho.2 with ⟨rfl, _⟩ | ⟨g', cap, cur, rfl, _, hh, _⟩
    · cases hg
    · obtain rfl : g' = g := by simpa [Value.ownBlock] using hg
      exact ⟨_, hh⟩
  rcases hg with ⟨A0, rfl, h⟩ | h
  · rcases A0 with _ | a0
    · have h0 : ps = [] := by
        rcases Nat.eq_zero_or_pos ps.length with h0 | h0
        · exact List.eq_nil_of_length_eq_zero h0
        · obtain ⟨b, off, e, _⟩ := h.cells h0
          cases e
      subst h0
      exact own (.slice none 0 0) (Pks.nil w0 w)
    · obtain ⟨vs, hvl, _, hvs, hsrc⟩ := h.heads
      have holds : ∀ j u, vs[j]? = some u → w.cell? (a0.add j) = some u := by
        intro j u hj
        have h0 : 0 < vs.length := by
          rcases Nat.eq_zero_or_pos vs.length with h0 | h0
          · rw [List.eq_nil_of_length_eq_zero h0] at hj
            simp at hj
          · exact h0
        obtain ⟨b, off, e, hlt, hcell⟩ := hsrc h0
        obtain rfl := Option.some.inj e
        rw [Go.WideShapes.add_plain]
        exact (hb.cell (p := ⟨b, off + j, none⟩) hlt).trans (hcell j u hj)
      obtain ⟨v', w', h0, h1, h2⟩ := run_append_arg_grows (P := P) w 79 ty 22 i0 (.slice none 0 0) 1 24 ht hi hz0 hz1 hz2 rfl (by decide) a0 ps.length ps.length vs (by omega) holds ⟨g1, 0, none⟩ 1 1 [.slice A ys.length c] rfl hnews (by omega) (by unfold maxLen; omega) (by omega)
      exact ⟨v', w', none, h0, ⟨vs ++ [.slice A ys.length c], by simpa using own_base h1 hb.size, heads_snoc hvl hvs hr⟩, h2, fun g e => by cases e⟩
  · exact own v h

/-- .. at a step of a region that draws its order. -/
theorem step_appendG {P : Program} {ops : Array Oper} {o : Oper} {a : Act} {K : Act → World → Prop} {Q : Exit → Act → World → Prop} {E : Prop} {w0 w : World} (ht : P.underlying 79 = some (.slice 22))
    (hinf : (P.info? 22).map (fun i => (i.zero, i.size, i.bytes)) = some (some (.slice none 0 0), 1, 24)) (hgd : o.guard = none) (s x : Operand)
    (ho : o.op = .call { callee := .builtin .append, args := #[s, x], argTypes := #[79, 79] }) (hb : Below w0.heap.size w0 w) (v : Value) (ps : List (List UInt8)) (hs : a.eval s = v) (hg : Gt w0 w v ps)
    (A : Option Addr) (c : Nat) (ys : List UInt8) (hr : Rd w0 w0.heap.size A c ys) (g1 : Nat) (hx : a.eval x = .slice (some ⟨g1, 0, none⟩) 1 1) (hc : w.cell? ⟨g1, 0, none⟩ = some (.slice A ys.length c)) (hl : ps.length ≤ 4000000)
    (h : ∀ A' c' w' row, Pks w0 w' (.slice A' (ps ++ [ys]).length c') (ps ++ [ys]) → w.grownBy w' row → (∀ g, row = some g → w0.heap.size ≤ g ∧ ∃ cs, w.heap[g]? = some (.cells cs 22 (0, 0))) → K (a.put o.dst (.slice A' (ps ++ [ys]).length c')) w') :
    if Region.wanted o (yielded ops a.tmps) = true then Oper.wp P o a w K Q else E := by
  have hw : Region.wanted o (yielded ops a.tmps) = true := by simp [Region.wanted, hgd]
  rw [if_pos hw]
  obtain ⟨v', w', row, h0, h1, h2, h3⟩ := run_appendG (P := P) (ty := o.type) ht hinf hb hg hr g1 hc hl
  obtain ⟨A', c', rfl⟩ := h1.shape
  unfold Oper.wp execOp
  simp only [ho, resolve, invoke, builtin, Sem.run_bind, Sem.run_pure, Result.andThen_ok, List.map_toArray, List.map_cons, List.map_nil, hs, hx, h0]
  exact h A' c' w' row h1 h2 h3

/-- A receiver that has not taken a packet. -/
def HeardNo (w : World) (rt : Bool) (vr : Value) (e : Ending) (w' : World) : Prop := e = .returned (.tuple #[sv rt vr, .bool false]) ∧ Below w.heap.size w w'
/-- A receiver that has taken a packet; only a row of the call's own may be written. -/
def HeardYes (w0 w : World) (rt : Bool) (ps : List (List UInt8)) (e : Ending) (w' : World) : Prop :=
  ∃ v row, e = .returned (.tuple #[sv rt v, .bool true]) ∧ Pks w0 w' v ps ∧ w.grownBy w' row ∧ (∀ g, row = some g → g < w.heap.size → w0.heap.size ≤ g ∧ ∃ cs, w.heap[g]? = some (.cells cs 22 (0, 0)))

set_option maxHeartbeats 800000 in
set_option maxRecDepth 5000000 in
theorem heard_no (w : World) (rt : Bool) (A : Option Addr) (n c : Nat) (vb : Value) :
    Calls Tryd.prog 115 #[sv rt (.slice A n c), .bool (!rt), vb] w (HeardNo w rt (.slice A n c)) := by
  have hb := Lib.hid (fun (o1 o2 : Obj) => ((Below.refl w.heap.size w).alloc (Nat.le_refl _) o1).alloc (by simp) o2)
  cases rt
  · go_enter Tryd.func115, Tryd.ntmps115
    go_wp2
    refine bodyPost_ret (v := .tuple #[sv false (.slice A n c), .bool false]) (by simp [results, Tryd.results115, go_sem]) rfl ?_
    exact ⟨rfl, hb.out _ _⟩
  · go_enter Tryd.func115, Tryd.ntmps115
    go_wp2
    refine bodyPost_ret (v := .tuple #[sv true (.slice A n c), .bool false]) (by simp [results, Tryd.results115, go_sem]) rfl ?_
    exact ⟨rfl, hb.out _ _⟩

/-- Behind a box, a result's place and a slice of one. -/
theorem box_one {w : World} {cs cs2 cs3 : Array Value} {T T2 T3 : TypeId} {W : World} (hW : W = (((w.alloc (.cells cs T)).alloc (.cells cs2 T2)).alloc (.cells cs3 T3)).drew) :
    W.heap.size = w.heap.size + 1 + 1 + 1 ∧ W.heap[w.heap.size]? = some (.cells cs T (0, 0)) ∧ W.heap[w.heap.size + 1]? = some (.cells cs2 T2 (0, 0)) ∧ W.heap[w.heap.size + 1 + 1]? = some (.cells cs3 T3 (0, 0)) ∧ Below w.heap.size w W := by
  subst hW
  refine ⟨by simp, ?_, ?_, ?_, ((((Below.refl w.heap.size w).alloc (Nat.le_refl _) _).alloc (by simp) _).alloc (by simp; omega) _).drew⟩
  · exact (Below.heap_alloc _ _ _ (by simp; omega)).trans ((Below.heap_alloc _ _ _ (by simp)).trans (heap_alloc_new w _))
  · have := heap_alloc2_new w (.cells cs T) (.cells cs2 T2)
    exact (Below.heap_alloc _ _ _ (by simp)).trans this
  · have := heap_alloc_new ((w.alloc (.cells cs T)).alloc (.cells cs2 T2)) (.cells cs3 T3)
    rw [show ((w.alloc (.cells cs T)).alloc (.cells cs2 T2)).heap.size = w.heap.size + 1 + 1 by simp] at this
    exact this

theorem Pks.apart {w0 w w' : World} {v : Value} {ps : List (List UInt8)} {p T : Nat} {cs : Array Value} (h : Pks w0 w v ps) (hp : w.heap[p]? = some (.cells cs T (0, 0))) (hT : T ≠ 22) (hg : w.grownBy w' (some p)) : Pks w0 w' v ps := by
  refine h.kept hg ?_
  obtain ⟨vs, ho, _⟩ := h
  rcases ho.2 with ⟨rfl, _⟩ | ⟨g, cap, cur, rfl, _, hh, _⟩
  · exact .inl rfl
  · exact .inr fun e => block_ne hp hh hT (Option.some.inj e).symm
theorem heard_end {w0 w W w1 : World} {p T : Nat} {a b : Value} {row : Option Nat} {v : Value} {qs : List (List UInt8)} (hW : Below w.heap.size w W) (hpk : Pks w0 w1 v qs) (hgr : W.grownBy w1 row)
    (hrow : ∀ g, row = some g → w0.heap.size ≤ g ∧ ∃ cs, W.heap[g]? = some (.cells cs 22 (0, 0))) (k2 : w1.heap[p]? = some (.cells #[a, b] T (0, 0))) (hT : T ≠ 22) (hp : w.heap.size ≤ p) (x y : Value) :
    Pks w0 ((w1.setCell ⟨p, 0, none⟩ x).setCell ⟨p, 1, none⟩ y) v qs ∧ w.grownBy ((w1.setCell ⟨p, 0, none⟩ x).setCell ⟨p, 1, none⟩ y) row ∧
      ∀ g, row = some g → g < w.heap.size → w0.heap.size ≤ g ∧ ∃ cs, w.heap[g]? = some (.cells cs 22 (0, 0)) := by
  have hs : w1.grownBy ((w1.setCell ⟨p, 0, none⟩ x).setCell ⟨p, 1, none⟩ y) (some p) := grown_trans (grown_setCell w1 ⟨p, 0, none⟩ x) (grown_setCell (w1.setCell ⟨p, 0, none⟩ x) ⟨p, 1, none⟩ y)
  refine ⟨hpk.apart k2 hT hs, ⟨hs.os.trans (hgr.os.trans hW.os), hs.tape.trans (hgr.tape.trans hW.tape), hs.output.trans (hgr.output.trans hW.output), Nat.le_trans hW.size (Nat.le_trans hgr.size hs.size), fun k hk hne => ?_⟩, fun g hg hlt => ?_⟩
  · have h1 := hW.size
    have h2 := hgr.size
    rw [hs.block k (by omega) (fun e => by injection e with e; omega), hgr.block k (by omega) hne, hW.block k hk]
  · obtain ⟨e1, cs, e2⟩ := hrow g hg
    rw [hW.block g hlt] at e2
    exact ⟨e1, cs, e2⟩

set_option maxHeartbeats 800000 in
set_option maxRecDepth 5000000 in
theorem heard_yes (w0 w : World) (rt : Bool) (vr : Value) (ps : List (List UInt8)) (hb0 : Below w0.heap.size w0 w) (hg : Gt w0 w vr ps) (A : Option Addr) (c : Nat) (ys : List UInt8) (hr : Rd w0 w0.heap.size A c ys) (hl : ps.length ≤ 4000000) :
    Calls Tryd.prog 115 #[sv rt vr, .bool rt, .slice A ys.length c] w (HeardYes w0 w (!rt) (ps ++ [ys])) := by
  have hrt : (rt != rt) = false := by simp
  obtain ⟨Ar, cr, rfl⟩ := hg.shape
  obtain ⟨h0, h1, h2, h3, h4⟩ := box_one (w := w) (cs := #[.bool rt, .slice Ar ps.length cr]) (cs2 := #[.bool false, .slice none 0 0]) (cs3 := #[.slice A ys.length c]) (T := 87) (T2 := 87) (T3 := 22) rfl
  have H1 := Lib.hid h1
  have H2 := Lib.hid h2
  have H3 := Lib.hid (block_at h3 (i := 0) (v := .slice A ys.length c) rfl)
  have H4 := Lib.hid h4
  have H5 := Lib.hid (hb0.trans (h4.mono hb0.size))
  have H6 := Lib.hid (hg.below h4)
  have H0 := Lib.hid h0
  clear h0 h1 h2 h3 h4
  go_enter Tryd.func115, Tryd.ntmps115
  go_wp2
  go_region_held3 (fun w' => w'.cell? ⟨w.heap.size, 0, none⟩ = some (.bool rt) ∧ w'.cell? ⟨w.heap.size, 1, none⟩ = some (.slice Ar ps.length cr))
    (first | go_keep | exact ⟨c0, c1⟩)
    ((refine step_appendG Tryd.underlying79 Tryd.info22 (by rfl) (.tmp 17) (.tmp 19) (by rfl) H5.out (.slice Ar ps.length cr) ps (by rfl) H6.out A c ys hr (w.heap.size + 1 + 1) (by rfl) H3.out hl ?_; intro A1 c1 w1 row hpk hgr hrow; have k1 := block_grown H1.out hgr (fun e => by obtain ⟨_, cs, hcs⟩ := hrow _ e.symm; exact block_ne hcs H1.out (by decide) rfl); have k2 := block_grown H2.out hgr (fun e => by obtain ⟨_, cs, hcs⟩ := hrow _ e.symm; exact block_ne hcs H2.out (by decide) rfl); have c0 := block_at k1 (i := 0) (v := .bool rt) rfl; have c1 := block_at k1 (i := 1) (v := .slice Ar ps.length cr) rfl; have d0 := block_at k2 (i := 0) (v := .bool false) rfl; have d1 := block_at k2 (i := 1) (v := .slice none 0 0) rfl; have f0 := block_free k2 0; have f1 := block_free k2 1; replace k1 := Lib.hid k1; replace k2 := Lib.hid k2; replace hrow := Lib.hid hrow))
  all_goals
    clear c0 c1 d0 d1 f0 f1
    go_wp2
    refine bodyPost_ret (results_row_tmp rfl _ _ (w.heap.size + 1) _ _ _ _ rfl (set2 k2.out _ _) Tryd.underlying87 rfl (by kernel_rfl)) rfl ?_
    have hlen : (ps ++ [ys]).length = ps.length + 1 := by simp
    rw [hlen] at hpk
    exact ⟨_, row, rfl, heard_end H4.out hpk hgr hrow.out k2.out (by decide) (by omega) _ _⟩

theorem _root_.Go.RowKit.Below.drewl {w w' : World} (h : Below w.drew.heap.size w.drew w') : Below w.heap.size w w' := ⟨h.os, h.tape, h.output, h.size, h.block⟩

end Go.Proofs.YtkfkcpogcobmbaaDoor.Tg

namespace Go.Proofs.YtkfkcpogcobmbaaDoor.Tg
open Go Go.RowKit Go.Proofs.YtkfkcpogcobmbaaDoor

/-- A packet, its toggle and true are returned. -/
def ResO3 (w : World) (xs : List UInt8) (t : Bool) (e : Ending) (w' : World) : Prop :=
  ∃ q, e = .returned (.tuple #[.slice (some ⟨q, 0, none⟩) xs.length xs.length, .bool t, .bool true]) ∧ w.heap.size ≤ q ∧ Row w' q 5 xs ∧ Below w.heap.size w w'
/-- Nothing and false twice are returned. -/
def ResO0 (w : World) (e : Ending) (w' : World) : Prop := e = .returned (.tuple #[.slice none 0 0, .bool false, .bool false]) ∧ Below w.heap.size w w'

set_option maxHeartbeats 800000 in
set_option maxRecDepth 5000000 in
theorem offer_none (w : World) (t : Bool) (A : Option Addr) (c : Nat) : Calls Tryd.prog 29 #[sv t (.slice A 0 c)] w (ResO0 w) := by
  have hb := Lib.hid (fun (o1 : Obj) => (Below.refl w.heap.size w).alloc (Nat.le_refl _) o1)
  go_enter Tryd.func29, Tryd.ntmps29
  go_wp2_with fail
  refine (has_no _ t A c).mono ?_
  rintro e w1 ⟨rfl, hb1⟩
  have hb2 := Lib.hid ((hb.out _).trans (hb1.mono (hb.out (.cells #[.bool t, .slice A 0 c] 82)).size))
  clear hb1
  go_wp2
  go_ret3
  exact ⟨rfl, hb2.out⟩

set_option maxHeartbeats 800000 in
set_option maxRecDepth 5000000 in
theorem offer_some (w : World) (t : Bool) (A : Option Addr) (c : Nat) (ps : List (List UInt8)) (h : Rds w w.heap.size A c ps) (hn : 0 < ps.length) (hs : Sml ps) :
    Calls Tryd.prog 29 #[sv t (.slice A ps.length c)] w (ResO3 w (ps.getD 0 []) t) := by
  obtain ⟨b, off, A1, c1, rfl, hlt, hc1, hr1⟩ := h.at_ hn
  rw [Nat.add_zero] at hc1
  have hx := hs.at_ 0
  have hi : (0 : Int) < (ps.length : Int) := by omega
  have hlen : 0 < ps.length := hn
  generalize ps.getD 0 [] = xs at hc1 hr1 hx ⊢
  generalize ps.length = n at hi hlen ⊢
  have hb0 := Lib.hid ((Below.refl w.heap.size w).alloc (Nat.le_refl _) (.cells #[.bool t, .slice (some ⟨b, off, none⟩) n c] 82))
  have k0 := Lib.hid (heap_alloc_new w (.cells #[.bool t, .slice (some ⟨b, off, none⟩) n c] 82))
  go_enter Tryd.func29, Tryd.ntmps29
  go_wp2_with fail
  refine (has_yes _ t (some ⟨b, off, none⟩) n c hlen).mono ?_
  rintro e w1 ⟨rfl, hb1⟩
  have hb2 := Lib.hid (hb0.out.trans (hb1.mono hb0.out.size))
  have k1 := (hb1.block _ (block_lt k0.out)).trans k0.out
  have e0 := block_at k1 (i := 0) (v := .bool t) rfl
  have e1 := block_at k1 (i := 1) (v := .slice (some ⟨b, off, none⟩) n c) rfl
  have e2 := (hb2.out.cell (p := ⟨b, off, none⟩) hlt).trans hc1
  have hr2 := Lib.hid (hr1.belowTop hb2.out)
  replace k1 := Lib.hid k1
  have hbl : b < w1.heap.size := World.block_lt_of_cell? _ _ e2
  clear hb1 k0 hb0 hc1 hr1
  go_wp2
  refine startT (S := fun a => a.block = w.heap.size ∨ a.block = b) (T := []) 10 (by kernel_rfl) rfl (l := #[false, false, false, false, false, false, false, false, false, false]) rfl ?_
  ((first | (refine takeT 0 (v := ?_) rfl (by decide +kernel) (by decide +kernel) (by decide +kernel) (fun _ _ _ h => h) (by decide +kernel) (Or.inl ⟨by rfl, ?_⟩) ?_; rotate_left 1; (focus (intro W hW; have hcW := hW.at; (try dsimp only at hcW); go_simp; first | done | with_reducible rfl)); try simp only [Act.put, List.setIfInBounds_toArray, List.set_cons_zero, List.set_cons_succ]) | (refine takeW 0 (v := ?_) rfl (by decide +kernel) (by decide +kernel) (by decide +kernel) (fun _ _ _ h => h) (Or.inl ⟨by rfl, ?_⟩) ?_; rotate_left 1; (focus (intro W hW; go_simp; first | done | with_reducible rfl)); try simp only [Act.put, List.setIfInBounds_toArray, List.set_cons_zero, List.set_cons_succ]) | (refine takeW 0 rfl (by decide +kernel) (by decide +kernel) (by decide +kernel) (fun _ _ _ h => h) (Or.inr ⟨by rfl, rfl⟩) ?_; try simp only [Act.put, List.setIfInBounds_toArray, List.set_cons_zero, List.set_cons_succ]) | skip); (first | (refine takeT 1 (v := ?_) rfl (by decide +kernel) (by decide +kernel) (by decide +kernel) (fun _ _ _ h => h) (by decide +kernel) (Or.inl ⟨by rfl, ?_⟩) ?_; rotate_left 1; (focus (intro W hW; have hcW := hW.at; (try dsimp only at hcW); go_simp; first | done | with_reducible rfl)); try simp only [Act.put, List.setIfInBounds_toArray, List.set_cons_zero, List.set_cons_succ]) | (refine takeW 1 (v := ?_) rfl (by decide +kernel) (by decide +kernel) (by decide +kernel) (fun _ _ _ h => h) (Or.inl ⟨by rfl, ?_⟩) ?_; rotate_left 1; (focus (intro W hW; go_simp; first | done | with_reducible rfl)); try simp only [Act.put, List.setIfInBounds_toArray, List.set_cons_zero, List.set_cons_succ]) | (refine takeW 1 rfl (by decide +kernel) (by decide +kernel) (by decide +kernel) (fun _ _ _ h => h) (Or.inr ⟨by rfl, rfl⟩) ?_; try simp only [Act.put, List.setIfInBounds_toArray, List.set_cons_zero, List.set_cons_succ]) | skip); (first | (refine takeT 2 (v := ?_) rfl (by decide +kernel) (by decide +kernel) (by decide +kernel) (fun _ _ _ h => h) (by decide +kernel) (Or.inl ⟨by rfl, ?_⟩) ?_; rotate_left 1; (focus (intro W hW; have hcW := hW.at; (try dsimp only at hcW); go_simp; first | done | with_reducible rfl)); try simp only [Act.put, List.setIfInBounds_toArray, List.set_cons_zero, List.set_cons_succ]) | (refine takeW 2 (v := ?_) rfl (by decide +kernel) (by decide +kernel) (by decide +kernel) (fun _ _ _ h => h) (Or.inl ⟨by rfl, ?_⟩) ?_; rotate_left 1; (focus (intro W hW; go_simp; first | done | with_reducible rfl)); try simp only [Act.put, List.setIfInBounds_toArray, List.set_cons_zero, List.set_cons_succ]) | (refine takeW 2 rfl (by decide +kernel) (by decide +kernel) (by decide +kernel) (fun _ _ _ h => h) (Or.inr ⟨by rfl, rfl⟩) ?_; try simp only [Act.put, List.setIfInBounds_toArray, List.set_cons_zero, List.set_cons_succ]) | skip); (first | (refine takeT 3 (v := ?_) rfl (by decide +kernel) (by decide +kernel) (by decide +kernel) (fun _ _ _ h => h) (by decide +kernel) (Or.inl ⟨by rfl, ?_⟩) ?_; rotate_left 1; (focus (intro W hW; have hcW := hW.at; (try dsimp only at hcW); go_simp; first | done | with_reducible rfl)); try simp only [Act.put, List.setIfInBounds_toArray, List.set_cons_zero, List.set_cons_succ]) | (refine takeW 3 (v := ?_) rfl (by decide +kernel) (by decide +kernel) (by decide +kernel) (fun _ _ _ h => h) (Or.inl ⟨by rfl, ?_⟩) ?_; rotate_left 1; (focus (intro W hW; go_simp; first | done | with_reducible rfl)); try simp only [Act.put, List.setIfInBounds_toArray, List.set_cons_zero, List.set_cons_succ]) | (refine takeW 3 rfl (by decide +kernel) (by decide +kernel) (by decide +kernel) (fun _ _ _ h => h) (Or.inr ⟨by rfl, rfl⟩) ?_; try simp only [Act.put, List.setIfInBounds_toArray, List.set_cons_zero, List.set_cons_succ]) | skip); (first | (refine takeT 5 (v := ?_) rfl (by decide +kernel) (by decide +kernel) (by decide +kernel) (fun _ _ _ h => h) (by decide +kernel) (Or.inl ⟨by rfl, ?_⟩) ?_; rotate_left 1; (focus (intro W hW; have hcW := hW.at; (try dsimp only at hcW); go_simp; first | done | with_reducible rfl)); try simp only [Act.put, List.setIfInBounds_toArray, List.set_cons_zero, List.set_cons_succ]) | (refine takeW 5 (v := ?_) rfl (by decide +kernel) (by decide +kernel) (by decide +kernel) (fun _ _ _ h => h) (Or.inl ⟨by rfl, ?_⟩) ?_; rotate_left 1; (focus (intro W hW; go_simp; first | done | with_reducible rfl)); try simp only [Act.put, List.setIfInBounds_toArray, List.set_cons_zero, List.set_cons_succ]) | (refine takeW 5 rfl (by decide +kernel) (by decide +kernel) (by decide +kernel) (fun _ _ _ h => h) (Or.inr ⟨by rfl, rfl⟩) ?_; try simp only [Act.put, List.setIfInBounds_toArray, List.set_cons_zero, List.set_cons_succ]) | skip); (first | (refine takeT 6 (v := ?_) rfl (by decide +kernel) (by decide +kernel) (by decide +kernel) (fun _ _ _ h => h) (by decide +kernel) (Or.inl ⟨by rfl, ?_⟩) ?_; rotate_left 1; (focus (intro W hW; have hcW := hW.at; (try dsimp only at hcW); go_simp; first | done | with_reducible rfl)); try simp only [Act.put, List.setIfInBounds_toArray, List.set_cons_zero, List.set_cons_succ]) | (refine takeW 6 (v := ?_) rfl (by decide +kernel) (by decide +kernel) (by decide +kernel) (fun _ _ _ h => h) (Or.inl ⟨by rfl, ?_⟩) ?_; rotate_left 1; (focus (intro W hW; go_simp; first | done | with_reducible rfl)); try simp only [Act.put, List.setIfInBounds_toArray, List.set_cons_zero, List.set_cons_succ]) | (refine takeW 6 rfl (by decide +kernel) (by decide +kernel) (by decide +kernel) (fun _ _ _ h => h) (Or.inr ⟨by rfl, rfl⟩) ?_; try simp only [Act.put, List.setIfInBounds_toArray, List.set_cons_zero, List.set_cons_succ]) | skip))
  refine stepT 4 rfl (by decide +kernel) (by rfl) ?_
  intro K hK
  go_simp
  refine (copied_any _ A1 c1 xs hr2.out.drew hx).mono ?_
  rintro e w2 ⟨q, rfl, hq, hrow, hb3⟩
  replace hb3 := hb3.drewl
  refine hK _ _ (.inr fun a ha => by rcases ha with h | h <;> exact hb3.cell (by rw [h]; first | exact block_lt k1.out | exact hbl)) ?_
  clear hK K e0 e1 e2
  try simp only [Act.put, List.setIfInBounds_toArray, List.set_cons_zero, List.set_cons_succ]
  ((first | (refine takeT 7 (v := ?_) rfl (by decide +kernel) (by decide +kernel) (by decide +kernel) (fun _ _ _ h => h) (by decide +kernel) (Or.inl ⟨by rfl, ?_⟩) ?_; rotate_left 1; (focus (intro W hW; have hcW := hW.at; (try dsimp only at hcW); go_simp; first | done | with_reducible rfl)); try simp only [Act.put, List.setIfInBounds_toArray, List.set_cons_zero, List.set_cons_succ]) | (refine takeW 7 (v := ?_) rfl (by decide +kernel) (by decide +kernel) (by decide +kernel) (fun _ _ _ h => h) (Or.inl ⟨by rfl, ?_⟩) ?_; rotate_left 1; (focus (intro W hW; go_simp; first | done | with_reducible rfl)); try simp only [Act.put, List.setIfInBounds_toArray, List.set_cons_zero, List.set_cons_succ]) | (refine takeW 7 rfl (by decide +kernel) (by decide +kernel) (by decide +kernel) (fun _ _ _ h => h) (Or.inr ⟨by rfl, rfl⟩) ?_; try simp only [Act.put, List.setIfInBounds_toArray, List.set_cons_zero, List.set_cons_succ]) | skip); (first | (refine takeT 8 (v := ?_) rfl (by decide +kernel) (by decide +kernel) (by decide +kernel) (fun _ _ _ h => h) (by decide +kernel) (Or.inl ⟨by rfl, ?_⟩) ?_; rotate_left 1; (focus (intro W hW; have hcW := hW.at; (try dsimp only at hcW); go_simp; first | done | with_reducible rfl)); try simp only [Act.put, List.setIfInBounds_toArray, List.set_cons_zero, List.set_cons_succ]) | (refine takeW 8 (v := ?_) rfl (by decide +kernel) (by decide +kernel) (by decide +kernel) (fun _ _ _ h => h) (Or.inl ⟨by rfl, ?_⟩) ?_; rotate_left 1; (focus (intro W hW; go_simp; first | done | with_reducible rfl)); try simp only [Act.put, List.setIfInBounds_toArray, List.set_cons_zero, List.set_cons_succ]) | (refine takeW 8 rfl (by decide +kernel) (by decide +kernel) (by decide +kernel) (fun _ _ _ h => h) (Or.inr ⟨by rfl, rfl⟩) ?_; try simp only [Act.put, List.setIfInBounds_toArray, List.set_cons_zero, List.set_cons_succ]) | skip); (first | (refine takeT 9 (v := ?_) rfl (by decide +kernel) (by decide +kernel) (by decide +kernel) (fun _ _ _ h => h) (by decide +kernel) (Or.inl ⟨by rfl, ?_⟩) ?_; rotate_left 1; (focus (intro W hW; have hcW := hW.at; (try dsimp only at hcW); go_simp; first | done | with_reducible rfl)); try simp only [Act.put, List.setIfInBounds_toArray, List.set_cons_zero, List.set_cons_succ]) | (refine takeW 9 (v := ?_) rfl (by decide +kernel) (by decide +kernel) (by decide +kernel) (fun _ _ _ h => h) (Or.inl ⟨by rfl, ?_⟩) ?_; rotate_left 1; (focus (intro W hW; go_simp; first | done | with_reducible rfl)); try simp only [Act.put, List.setIfInBounds_toArray, List.set_cons_zero, List.set_cons_succ]) | (refine takeW 9 rfl (by decide +kernel) (by decide +kernel) (by decide +kernel) (fun _ _ _ h => h) (Or.inr ⟨by rfl, rfl⟩) ?_; try simp only [Act.put, List.setIfInBounds_toArray, List.set_cons_zero, List.set_cons_succ]) | skip))
  refine doneT (by kernel_rfl) ?_
  go_wp2
  go_ret3
  exact ⟨q, rfl, Nat.le_trans hb2.out.size hq, hrow, hb2.out.trans (hb3.mono hb2.out.size)⟩

/-- Nothing and an error are returned. -/
def ResNE (w : World) (n : Int) (e : Ending) (w' : World) : Prop := e = .returned (.tuple #[sv false (.slice none 0 0), .int .i64 n]) ∧ Below w.heap.size w w'
/-- A new sender and no error are returned. -/
def ResSE (w : World) (t : Bool) (ps : List (List UInt8)) (e : Ending) (w' : World) : Prop :=
  ∃ g, e = .returned (.tuple #[sv t (.slice (some ⟨g, 0, none⟩) ps.length ps.length), .int .i64 0]) ∧ News w' w.heap.size g ps ∧ Below w.heap.size w w'

set_option maxHeartbeats 800000 in
set_option maxRecDepth 5000000 in
theorem acks_none (w : World) (t : Bool) (A : Option Addr) (c : Nat) : Calls Tryd.prog 30 #[sv t (.slice A 0 c)] w (ResNE w 7) := by
  obtain ⟨w2, hw2⟩ : ∃ w2, w2 = (w.alloc (.cells #[.bool t, .slice A 0 c] 82)).alloc (.cells #[.bool false, .slice none 0 0] 82) := ⟨_, rfl⟩
  have hb := Lib.hid (((Below.refl w.heap.size w).alloc (Nat.le_refl _) (.cells #[.bool t, .slice A 0 c] 82)).alloc (by simp) (.cells #[.bool false, .slice none 0 0] 82))
  have kk := Lib.hid (heap_alloc2_new w (.cells #[.bool t, .slice A 0 c] 82) (.cells #[.bool false, .slice none 0 0] 82))
  clear hw2 w2
  go_enter Tryd.func30, Tryd.ntmps30
  go_wp2_with fail
  refine (has_no _ t A c).mono ?_
  rintro e w1 ⟨rfl, hb1⟩
  have hb2 := Lib.hid (hb.out.trans (hb1.mono hb.out.size))
  have k1 := (hb1.block _ (block_lt kk.out)).trans kk.out
  have d0 := block_at k1 (i := 0) (v := .bool false) rfl
  have d1 := block_at k1 (i := 1) (v := .slice none 0 0) rfl
  have f0 := block_free k1 0
  have f1 := block_free k1 1
  replace k1 := Lib.hid k1
  clear hb1
  go_wp2
  refine bodyPost_ret (results_row_tmp rfl _ _ _ _ _ _ _ rfl (set2 k1.out _ _) Tryd.underlying82 rfl (by kernel_rfl)) rfl ?_
  exact ⟨rfl, below2 hb2.out (by omega) _ _⟩

set_option maxHeartbeats 800000 in
set_option maxRecDepth 5000000 in
theorem acks_core (w : World) (t : Bool) (A : Option Addr) (c : Nat) (ps qs : List (List UInt8)) (h : Rds w w.heap.size A c ps) (hn : 0 < ps.length) (hs1 : Sml qs) (KA : Hid (∀ W, Rds W W.heap.size A c ps → Calls Tryd.prog 48 #[sv t (.slice A ps.length c)] W (ResA W (!t) qs))) :
    Calls Tryd.prog 30 #[sv t (.slice A ps.length c)] w (ResSE w (!t) qs) := by
  have hb := Lib.hid (((Below.refl w.heap.size w).alloc (Nat.le_refl _) (.cells #[.bool t, .slice A ps.length c] 82)).alloc (by simp) (.cells #[.bool false, .slice none 0 0] 82))
  have kk := Lib.hid (heap_alloc2_new w (.cells #[.bool t, .slice A ps.length c] 82) (.cells #[.bool false, .slice none 0 0] 82))
  have k0 := Lib.hid (heap_alloc2_old w (.cells #[.bool t, .slice A ps.length c] 82) (.cells #[.bool false, .slice none 0 0] 82))
  go_enter Tryd.func30, Tryd.ntmps30
  go_wp2_with fail
  refine (has_yes _ t A ps.length c hn).mono ?_
  rintro e w1 ⟨rfl, hb1⟩
  have hb2 := Lib.hid (hb.out.trans (hb1.mono hb.out.size))
  have k1 := Lib.hid ((hb1.block _ (block_lt kk.out)).trans kk.out)
  have q1 := (hb1.block _ (block_lt k0.out)).trans k0.out
  have c0 := block_at q1 (i := 0) (v := .bool t) rfl
  have c1 := block_at q1 (i := 1) (v := .slice A ps.length c) rfl
  clear hb1 q1
  go_wp2_with fail
  refine (KA.out w1 (h.belowTop hb2.out)).mono ?_
  rintro e w2 ⟨A2, c2, rfl, hr2, hb3⟩
  replace hb2 := Lib.hid (hb2.out.trans (hb3.mono hb2.out.size))
  replace k1 := Lib.hid ((hb3.block _ (block_lt k1.out)).trans k1.out)
  clear hb3 c0 c1
  go_wp2_with fail
  refine (ownS_any w2 (!t) A2 c2 qs hr2 hs1).mono ?_
  rintro e w3 ⟨g, rfl, hn3, hb3⟩
  replace hn3 := Lib.hid (hn3.mono (base' := w.heap.size) hb2.out.size)
  replace hb2 := Lib.hid (hb2.out.trans (hb3.mono hb2.out.size))
  replace k1 := (hb3.block _ (block_lt k1.out)).trans k1.out
  have d0 := block_at k1 (i := 0) (v := .bool false) rfl
  have d1 := block_at k1 (i := 1) (v := .slice none 0 0) rfl
  have f0 := block_free k1 0
  have f1 := block_free k1 1
  replace k1 := Lib.hid k1
  clear hb3 hr2
  go_wp2
  refine bodyPost_ret (results_row_tmp rfl _ _ _ _ _ _ _ rfl (set2 k1.out _ _) Tryd.underlying82 rfl (by kernel_rfl)) rfl ?_
  exact ⟨g, rfl, hn3.out.stores2 k1.out (by decide) (by decide) _ _, below2 hb2.out (by omega) _ _⟩
theorem acks_some (w : World) (t : Bool) (A : Option Addr) (c : Nat) (ps : List (List UInt8)) (h : Rds w w.heap.size A c ps) (hn : 0 < ps.length) (hs : Sml ps) :
    Calls Tryd.prog 30 #[sv t (.slice A ps.length c)] w (ResSE w (!t) (ps.drop 1)) :=
  acks_core w t A c ps _ h hn (hs.drop 1) fun W hW => ack_any W t A c ps hW hn

/-- A new receiver, and whether it has taken a packet, are returned. -/
def ResHr (w : World) (t : Bool) (ps : List (List UInt8)) (fresh : Bool) (e : Ending) (w' : World) : Prop :=
  ∃ g, e = .returned (.tuple #[sv t (.slice (some ⟨g, 0, none⟩) ps.length ps.length), .bool fresh]) ∧ News w' w.heap.size g ps ∧ Below w.heap.size w w'

theorem Sml.snoc {ps : List (List UInt8)} {b : List UInt8} (h : Sml ps) (hl : ps.length ≤ 4000000) (hb : b.length ≤ 5000000) : Sml (ps ++ [b]) := by
  refine ⟨by simp; omega, fun j => ?_⟩
  rcases Nat.lt_or_ge j ps.length with hj | hj
  · rw [getD_append_lt hj]; exact h.2 j
  · rw [getD_append_ge hj]
    cases j - ps.length with
    | zero => exact hb
    | succ n => simp [List.getD]

set_option maxHeartbeats 800000 in
set_option maxRecDepth 5000000 in
theorem hear_no (w : World) (rt : Bool) (A : Option Addr) (c : Nat) (ps : List (List UInt8)) (h : Rds w w.heap.size A c ps) (hs : Sml ps) (vb : Value) :
    Calls Tryd.prog 114 #[sv rt (.slice A ps.length c), .bool (!rt), vb] w (ResHr w rt ps false) := by
  have hb := Lib.hid (((Below.refl w.heap.size w).alloc (Nat.le_refl _) (.cells #[.bool rt, .slice A ps.length c] 87)).alloc (by simp) (.cells #[.bool false, .slice none 0 0] 87))
  have kk := Lib.hid (heap_alloc2_new w (.cells #[.bool rt, .slice A ps.length c] 87) (.cells #[.bool false, .slice none 0 0] 87))
  have hle := h.le
  have hcap := h.cap
  go_enter Tryd.func114, Tryd.ntmps114
  go_wp2_with fail
  refine (clipped_any _ rt A ps.length c hle hcap).mono ?_
  rintro e w1 ⟨rfl, hb1⟩
  have hb2 := Lib.hid (hb.out.trans (hb1.mono hb.out.size))
  have k1 := Lib.hid ((hb1.block _ (block_lt kk.out)).trans kk.out)
  clear hb1
  go_wp2_with fail
  refine (heard_no w1 rt A ps.length ps.length vb).mono ?_
  rintro e w2 ⟨rfl, hb1⟩
  replace hb2 := Lib.hid (hb2.out.trans (hb1.mono hb2.out.size))
  replace k1 := (hb1.block _ (block_lt k1.out)).trans k1.out
  have d0 := block_at k1 (i := 0) (v := .bool false) rfl
  have d1 := block_at k1 (i := 1) (v := .slice none 0 0) rfl
  have f0 := block_free k1 0
  have f1 := block_free k1 1
  replace k1 := Lib.hid k1
  clear hb1
  have hb3 := Lib.hid (below2 hb2.out (by omega : w.heap.size ≤ w.heap.size + 1) (.bool rt) (.slice A ps.length ps.length))
  have hr3 := Lib.hid (h.clip.belowTop hb3.out)
  have k3 := Lib.hid (set2 k1.out (.bool rt) (.slice A ps.length ps.length))
  go_wp2_with fail
  refine (ownR_any _ (rt) A ps.length ps hr3.out hs).mono ?_
  rintro e w4 ⟨g, rfl, hn4, hb4⟩
  clear d0 d1 f0 f1
  replace hn4 := Lib.hid (hn4.mono (base' := w.heap.size) hb3.out.size)
  replace hb3 := Lib.hid (hb3.out.trans (hb4.mono hb3.out.size))
  replace k3 := (hb4.block _ (block_lt k3.out)).trans k3.out
  have d0 := block_at k3 (i := 0) (v := .bool (rt)) rfl
  have d1 := block_at k3 (i := 1) (v := (.slice A ps.length ps.length)) rfl
  have f0 := block_free k3 0
  have f1 := block_free k3 1
  replace k3 := Lib.hid k3
  clear hb4 hr3
  go_wp2
  refine bodyPost_ret (results_row_tmp rfl _ _ _ _ _ _ _ rfl (set2 k3.out _ _) Tryd.underlying87 rfl (by kernel_rfl)) rfl ?_
  exact ⟨g, rfl, hn4.out.stores2 k3.out (by decide) (by decide) _ _, below2 hb3.out (by omega) _ _⟩

set_option maxHeartbeats 800000 in
set_option maxRecDepth 5000000 in
theorem hear_yes (w : World) (rt : Bool) (A : Option Addr) (c : Nat) (ps : List (List UInt8)) (h : Rds w w.heap.size A c ps) (hs : Sml ps) (Ab : Option Addr) (cb : Nat) (b : List UInt8) (hbr : Rd w w.heap.size Ab cb b) (hl : ps.length ≤ 4000000) (hbl : b.length ≤ 5000000) :
    Calls Tryd.prog 114 #[sv rt (.slice A ps.length c), .bool rt, .slice Ab b.length cb] w (ResHr w (!rt) (ps ++ [b]) true) := by
  have hb := Lib.hid (((Below.refl w.heap.size w).alloc (Nat.le_refl _) (.cells #[.bool rt, .slice A ps.length c] 87)).alloc (by simp) (.cells #[.bool false, .slice none 0 0] 87))
  have kk := Lib.hid (heap_alloc2_new w (.cells #[.bool rt, .slice A ps.length c] 87) (.cells #[.bool false, .slice none 0 0] 87))
  have hle := h.le
  have hcap := h.cap
  have hsn := hs.snoc hl hbl
  go_enter Tryd.func114, Tryd.ntmps114
  go_wp2_with fail
  refine (clipped_any _ rt A ps.length c hle hcap).mono ?_
  rintro e w1 ⟨rfl, hb1⟩
  have hb2 := Lib.hid (hb.out.trans (hb1.mono hb.out.size))
  have k1 := Lib.hid ((hb1.block _ (block_lt kk.out)).trans kk.out)
  clear hb1
  go_wp2_with fail
  refine (heard_yes w w1 rt (.slice A ps.length ps.length) ps hb2.out (.inl ⟨A, rfl, h.clip⟩) Ab cb b hbr (by omega)).mono ?_
  rintro e w2 ⟨v, row, rfl, hpk, hgr, hrow⟩
  obtain ⟨Av, cv, rfl⟩ := hpk.shape
  replace k1 := block_grown k1.out hgr (fun e => by
    obtain ⟨_, cs, hcs⟩ := hrow _ e.symm (block_lt k1.out)
    exact block_ne k1.out hcs (by decide) rfl)
  replace hb2 := Lib.hid (show Below w.heap.size w w2 from ⟨hgr.os.trans hb2.out.os, hgr.tape.trans hb2.out.tape, hgr.output.trans hb2.out.output, Nat.le_trans hb2.out.size hgr.size, fun k hk => (hgr.block k (Nat.lt_of_lt_of_le hk hb2.out.size) (fun e => by
    have := (hrow k e.symm (Nat.lt_of_lt_of_le hk hb2.out.size)).1
    omega)).trans (hb2.out.block k hk)⟩)
  clear hgr hrow
  have d0 := block_at k1 (i := 0) (v := .bool false) rfl
  have d1 := block_at k1 (i := 1) (v := .slice none 0 0) rfl
  have f0 := block_free k1 0
  have f1 := block_free k1 1
  replace k1 := Lib.hid k1
  obtain ⟨qs, hq⟩ : ∃ qs, ps ++ [b] = qs := ⟨_, rfl⟩
  rw [hq] at hpk hsn ⊢
  replace hq := Lib.hid hq
  have hgs := grown_trans (grown_setCell w2 ⟨w.heap.size + 1, 0, none⟩ (.bool !rt)) (grown_setCell (w2.setCell ⟨w.heap.size + 1, 0, none⟩ (.bool !rt)) ⟨w.heap.size + 1, 1, none⟩ (.slice Av qs.length cv))
  have hpk3 := Lib.hid (hpk.apart k1.out (by decide) hgs)
  clear hgs hpk
  have hb3 := Lib.hid (below2 hb2.out (by omega : w.heap.size ≤ w.heap.size + 1) (.bool !rt) (.slice Av qs.length cv))
  have hr3 := Lib.hid (show Rds _ _ Av cv qs by
    obtain ⟨A2, c2, e, hr⟩ := hpk3.out.rds hb3.out
    injection e with e1 e2 e3
    rw [e1, e3]
    exact hr)
  have k3 := Lib.hid (set2 k1.out (.bool !rt) (.slice Av qs.length cv))
  go_wp2_with fail
  refine (ownR_any _ (!rt) Av cv qs hr3.out hsn).mono ?_
  rintro e w4 ⟨g, rfl, hn4, hb4⟩
  clear d0 d1 f0 f1
  replace hn4 := Lib.hid (hn4.mono (base' := w.heap.size) hb3.out.size)
  replace hb3 := Lib.hid (hb3.out.trans (hb4.mono hb3.out.size))
  replace k3 := (hb4.block _ (block_lt k3.out)).trans k3.out
  have d0 := block_at k3 (i := 0) (v := .bool (!rt)) rfl
  have d1 := block_at k3 (i := 1) (v := (.slice Av qs.length cv)) rfl
  have f0 := block_free k3 0
  have f1 := block_free k3 1
  replace k3 := Lib.hid k3
  clear hb4 hr3
  go_wp2
  refine bodyPost_ret (results_row_tmp rfl _ _ _ _ _ _ _ rfl (set2 k3.out _ _) Tryd.underlying87 rfl (by kernel_rfl)) rfl ?_
  rw [hq.out]
  exact ⟨g, rfl, hn4.out.stores2 k3.out (by decide) (by decide) _ _, below2 hb3.out (by omega) _ _⟩

end Go.Proofs.YtkfkcpogcobmbaaDoor.Tg

namespace Go.Proofs.YtkfkcpogcobmbaaDoor.Tg
open Go Go.RowKit Go.Proofs.YtkfkcpogcobmbaaDoor

/-- Too many packets, or one that is too long. -/
theorem new_many (w : World) (A : Option Addr) (n c : Nat) (hn : 4096 < n) : Calls Tryd.prog 28 #[.slice A n c] w (ResNE w 3) := by
  have h1 : (4096 : Int) < (n : Int) := by omega
  have hb := Lib.hid (fun (o1 : Obj) => (Below.refl w.heap.size w).alloc (Nat.le_refl _) o1)
  go_enter Tryd.func28, Tryd.ntmps28
  go_wp2
  refine bodyPost_ret (results_row_tmp rfl _ _ _ _ _ _ _ rfl (heap_alloc_new w _) Tryd.underlying82 rfl (by kernel_rfl)) rfl ?_
  exact ⟨rfl, hb.out _⟩

set_option maxHeartbeats 800000 in
set_option maxRecDepth 5000000 in
theorem new_long (w : World) (A : Option Addr) (c : Nat) (ps : List (List UInt8)) (h : Rds w w.heap.size A c ps) (hn : ps.length ≤ 4096) (J : Nat) (hJ : J < ps.length) (hlong : 1024 < (ps.getD J []).length) (hshort : ∀ j, j < J → (ps.getD j []).length ≤ 1024) :
    Calls Tryd.prog 28 #[.slice A ps.length c] w (ResNE w 3) := by
  have h1 : ¬ (4096 : Int) < (ps.length : Int) := by omega
  have hb := Lib.hid (fun (o1 : Obj) => (Below.refl w.heap.size w).alloc (Nat.le_refl _) o1)
  have hsh := Lib.hid hshort
  clear hshort
  go_enter Tryd.func28, Tryd.ntmps28
  go_wp2
  go_loopg [12] J (fun g i wr => ∃ k : Nat, k + g = J ∧ i = .int .i64 k ∧ wr = w.alloc (.cells #[.bool false, .slice none 0 0] 82))
  case atStart => exact ⟨0, by omega, rfl, rfl⟩
  case round =>
    obtain ⟨k, hkg, rfl, rfl⟩ := hrel
    obtain ⟨b, off, A1, c1, rfl, hlt, hc1, _⟩ := h.at_ (k := k) (by omega)
    by_cases hk : k = J
    · subst hk
      have h2 : (1024 : Int) < ((ps.getD k []).length : Int) := by omega
      clear hsh
      generalize ps.getD k [] = xs at hc1 h2
      go_wp2
      refine bodyPost_ret (results_row_tmp rfl _ _ _ _ _ _ _ rfl (heap_alloc_new w _) Tryd.underlying82 rfl (by kernel_rfl)) rfl ?_
      exact ⟨rfl, hb.out _⟩
    · have h2 : ¬ (1024 : Int) < ((ps.getD k []).length : Int) := by have := hsh.out k (by omega); omega
      clear hlong
      generalize ps.getD k [] = xs at hc1 h2
      go_wp2
      go_roundg (gk - 1)
      case measure => omega
      case rel => exact ⟨k + 1, by omega, by go_num, rfl⟩

set_option maxHeartbeats 800000 in
set_option maxRecDepth 5000000 in
theorem new_good (w : World) (A : Option Addr) (c : Nat) (ps : List (List UInt8)) (h : Rds w w.heap.size A c ps) (hn : ps.length ≤ 4096) (hshort : ∀ j, (ps.getD j []).length ≤ 1024) :
    Calls Tryd.prog 28 #[.slice A ps.length c] w (ResSE w false ps) := by
  have h1 : ¬ (4096 : Int) < (ps.length : Int) := by omega
  have hb := Lib.hid ((Below.refl w.heap.size w).alloc (Nat.le_refl _) (.cells #[.bool false, .slice none 0 0] 82))
  have kk := Lib.hid (heap_alloc_new w (.cells #[.bool false, .slice none 0 0] 82))
  have hs : Sml ps := ⟨by omega, fun j => by have := hshort j; omega⟩
  have hsh := Lib.hid hshort
  clear hshort
  go_enter Tryd.func28, Tryd.ntmps28
  go_wp2
  go_loopg [12] ps.length (fun g i wr => ∃ k : Nat, k + g = ps.length ∧ i = .int .i64 k ∧ wr = w.alloc (.cells #[.bool false, .slice none 0 0] 82))
  case atStart => exact ⟨0, by omega, rfl, rfl⟩
  case round =>
    obtain ⟨k, hkg, rfl, rfl⟩ := hrel
    by_cases hk : k < ps.length
    · obtain ⟨b, off, A1, c1, rfl, hlt, hc1, _⟩ := h.at_ hk
      have h2 : ¬ (1024 : Int) < ((ps.getD k []).length : Int) := by have := hsh.out k; omega
      generalize ps.getD k [] = xs at hc1 h2
      go_wp2
      go_roundg (gk - 1)
      case measure => omega
      case rel => exact ⟨k + 1, by omega, by go_num, rfl⟩
    · obtain rfl : k = ps.length := by omega
      have hr := h.belowTop hb.out
      go_wp2_with fail
      refine (ownS_any _ false A c ps hr hs).mono ?_
      rintro e w1 ⟨g, rfl, hn1, hb1⟩
      replace hn1 := Lib.hid (hn1.mono (base' := w.heap.size) hb.out.size)
      have hb2 := Lib.hid (hb.out.trans (hb1.mono hb.out.size))
      have k1 := (hb1.block _ (block_lt kk.out)).trans kk.out
      have d0 := block_at k1 (i := 0) (v := .bool false) rfl
      have d1 := block_at k1 (i := 1) (v := .slice none 0 0) rfl
      have f0 := block_free k1 0
      have f1 := block_free k1 1
      replace k1 := Lib.hid k1
      clear hb1 hr
      go_wp2
      refine bodyPost_ret (results_row_tmp rfl _ _ _ _ _ _ _ rfl (set2 k1.out _ _) Tryd.underlying82 rfl (by kernel_rfl)) rfl ?_
      exact ⟨g, rfl, hn1.out.stores2 k1.out (by decide) (by decide) _ _, below2 hb2.out (Nat.le_refl _) _ _⟩

end Go.Proofs.YtkfkcpogcobmbaaDoor.Tg

