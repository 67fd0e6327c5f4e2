/-
  Helper text: cuts of slices of slices, and what a changed state leaves; no statement is proved here.
-/
import Derived.Test.YtbeghnpdmcmdmaaDoorLineA
import Derived.Test.YtbeghnpdmcmdmaaDoorLineD
namespace Go.Proofs.YtbeghnpdmcmdmaaDoor
open Go Go.RowKit

theorem Rds.take {w : World} {B : Nat} {A : Option Addr} {c : Nat} {ps : List (List UInt8)} (h : Rds w B A c ps) {k : Nat} (hk : k ≤ ps.length) : Rds w B A c (ps.take k) :=
  ⟨by have := h.le; rw [List.length_take]; omega, h.cap, fun hn => by
    rw [List.length_take] at hn
    obtain ⟨b, off, e, hb, hc⟩ := h.cells (by omega)
    refine ⟨b, off, e, hb, fun j hj => ?_⟩
    rw [List.length_take] at hj
    obtain ⟨A', c', h1, h2⟩ := hc j (by omega)
    have hg : (ps.take k).getD j [] = ps.getD j [] := by simp [List.getD, show j < k by omega]
    rw [hg]
    exact ⟨A', c', h1, h2⟩⟩
theorem Rds.drop {w : World} {B : Nat} {A : Option Addr} {c : Nat} {ps : List (List UInt8)} (h : Rds w B A c ps) {k : Nat} (hk : k ≤ ps.length) : Rds w B (if c = k then A else A.map (·.add k)) (c - k) (ps.drop k) := by
  have hle := h.le
  have hcap := h.cap
  refine ⟨by rw [List.length_drop]; omega, by omega, fun hn => ?_⟩
  rw [List.length_drop] at hn
  obtain ⟨b, off, rfl, hb, hc⟩ := h.cells (by omega)
  rw [if_neg (by omega)]
  refine ⟨b, off + k, by simp [Go.WideShapes.add_plain], hb, fun j hj => ?_⟩
  rw [List.length_drop] at hj
  obtain ⟨A', c', h1, h2⟩ := hc (k + j) (by omega)
  have hg : (ps.drop k).getD j [] = ps.getD (k + j) [] := by simp [List.getD, List.getElem?_drop]
  rw [hg, Nat.add_assoc]
  exact ⟨A', c', h1, h2⟩
theorem sliceP_h (A : Option Addr) (n c : Nat) (h : Int) (W : World) (h0 : 0 ≤ h) (h2 : h ≤ c) : (Instr.slice 45 (.slice A n c) none (some (.int .i64 h)) none).run Tryd.prog W = .ok (.slice A h.toNat c) W := by
  have hs : (sizeOf (Tryd.prog.elem 45)).run Tryd.prog W = .ok 1 W := by kernel_rfl
  rw [run_slice_h W 45 A n c (by kernel_rfl) .i64 h h0 h2, hs]
  simp [sliced, Result.andThen]
  intro _; cases A <;> simp [Addr.add]
theorem sliceP_from (A : Option Addr) (n c : Nat) (l : Int) (W : World) (h0 : 0 ≤ l) (h1 : l ≤ n) : (Instr.slice 45 (.slice A n c) (some (.int .i64 l)) none none).run Tryd.prog W = .ok (sliced A l.toNat n c 1) W := by
  have hs : (sizeOf (Tryd.prog.elem 45)).run Tryd.prog W = .ok 1 W := by kernel_rfl
  rw [run_slice_l W 45 A n c (by kernel_rfl) .i64 l h0 h1, hs]
  rfl
theorem Rds.from_ {w : World} {B : Nat} {A : Option Addr} {c : Nat} {ps : List (List UInt8)} (h : Rds w B A c ps) {k : Nat} (hk : k ≤ ps.length) :
    ∃ A' c', sliced A k ps.length c 1 = .slice A' (ps.length - k) c' ∧ Rds w B A' c' (ps.drop k) :=
  ⟨_, _, by simp [sliced], h.drop hk⟩

theorem grown_store {w : World} {g i : Nat} {u : Value} : w.grownBy (w.setCell ⟨g, i, none⟩ u) (some g) :=
  ⟨rfl, rfl, rfl, by simp [World.setCell], fun k _ hne => by
    have hkg : ¬ g = k := fun e => hne (by rw [e])
    simp [World.setCell, Array.getElem?_modify, hkg]⟩
/-- Behind the store. -/
theorem Ln.store {w0 w3 : World} {g cl i : Nat} {va : Value} {ll : List UInt8} {pp : List (List UInt8)} {t : UInt8} (h : Ln w0 w3 (.slice (some ⟨g, 0, none⟩) ll.length cl) va ll pp) (hg : w0.heap.size ≤ g)
    (hs : (w3.setCell ⟨g, i, none⟩ (bv t)).ownsRow w0.heap.size 5 1 (.slice (some ⟨g, 0, none⟩) ll.length cl) (ll.set i t).length ((ll.set i t).map bv)) :
    Ln w0 (w3.setCell ⟨g, i, none⟩ (bv t)) (.slice (some ⟨g, 0, none⟩) ll.length cl) va (ll.set i t) pp := by
  refine ⟨h.below.setCell (p := ⟨g, i, none⟩) hg (bv t), hs, ?_⟩
  obtain ⟨vs, ho, hv⟩ := h.packs
  exact ⟨vs, ho.kept grown_store (own_ne ho h.line (by decide)), hv⟩

theorem set_line (fs rs : List (Nat × List UInt8)) (j : Nat) (q : List UInt8) (r : Nat) (t : UInt8) (hr : r < (sendL q).length) : ∃ mid, (lineL fs ++ (List.replicate j 0 ++ sendL q) ++ lineL rs).set ((lineL fs).length + j + r) t = lineL fs ++ mid ++ lineL rs := by
  have h1 : (lineL fs).length + j + r < (lineL fs ++ (List.replicate j 0 ++ sendL q)).length := by simp; omega
  rw [List.set_append_left _ _ h1, List.set_append_right _ _ (by omega)]
  exact ⟨_, rfl⟩
theorem ls_len (xs : List UInt8) : ∀ s : LsT, (xs.foldl stepLs s).2.1.length ≤ s.2.1.length + xs.length := by
  induction xs with
  | nil => intro s; simp
  | cons x xs ih =>
    intro s
    have h1 : (stepLs s x).2.1.length ≤ s.2.1.length + 1 := by
      obtain ⟨_ | p, ps, d⟩ := s
      · simp only [stepLs]
        split <;> simp
      · simp only [stepLs]
        split
        · split <;> simp
        · simp
    have h2 := ih (stepLs s x)
    rw [List.foldl_cons, List.length_cons]
    omega
theorem listen_len (xs : List UInt8) : (listenL xs).1.length ≤ xs.length := by
  have := ls_len xs (none, [], 0)
  simpa [listenL, lsS] using this

end Go.Proofs.YtbeghnpdmcmdmaaDoor
