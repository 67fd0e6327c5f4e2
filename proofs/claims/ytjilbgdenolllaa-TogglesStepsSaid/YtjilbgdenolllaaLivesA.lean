/-
  Helper text: for the examples of the chapter; no statement is proved here.
-/
import Derived.Test.YtjilbgdenolllaaLw3
namespace Go.Proofs.Ytjilbgdenolllaa
open Go Go.RowKit

/-- A new row of headers. -/
theorem rds_built {w : World} (hs : List (Option Addr × Nat × List UInt8)) (hl : hs.length ≤ 1000000) (h : ∀ x ∈ hs, Rd w w.heap.size x.1 x.2.1 x.2.2) :
    Rds (w.alloc (.cells (hs.map fun x => Value.slice x.1 x.2.2.length x.2.1).toArray 26)) (w.heap.size + 1) (some ⟨w.heap.size, 0, none⟩) hs.length (hs.map fun x => x.2.2) := by
  have hb := (Below.refl w.heap.size w).alloc (Nat.le_refl _) (.cells (hs.map fun x => Value.slice x.1 x.2.2.length x.2.1).toArray 26)
  refine ⟨by simp, by omega, fun hn => ⟨w.heap.size, 0, rfl, by omega, fun j hj => ?_⟩⟩
  rw [List.length_map] at hj
  have hx := h hs[j] (List.getElem_mem hj)
  have e : (hs.map fun x => x.2.2).getD j [] = hs[j].2.2 := by simp [List.getD, List.getElem?_eq_getElem hj]
  rw [e, Nat.zero_add]
  refine ⟨hs[j].1, hs[j].2.1, block_at (heap_alloc_new w _) ?_, (hx.below hb).more (by omega)⟩
  simp [List.getElem?_eq_getElem hj]
theorem rd_top (w : World) (e : TypeId) (zs : List UInt8) (hl : zs.length ≤ 1000000000) : Rd (w.alloc (.cells (zs.map bv).toArray e)) (w.alloc (.cells (zs.map bv).toArray e)).heap.size (some ⟨w.heap.size, 0, none⟩) zs.length zs :=
  (rd_built w e zs hl).more (by simp)

theorem sml_of {ps : List (List UInt8)} (h1 : ps.length ≤ 100000) (h : ps.all (fun p => decide (p.length ≤ 1024)) = true) : Sml ps ∧ ∀ j, (ps.getD j []).length ≤ 1024 := by
  have key : ∀ j, (ps.getD j []).length ≤ 1024 := fun j => by
    rcases Nat.lt_or_ge j ps.length with hj | hj
    · have e : ps.getD j [] = ps[j] := by simp [List.getD, List.getElem?_eq_getElem hj]
      rw [e]
      exact of_decide_eq_true (List.all_eq_true.1 h ps[j] (List.getElem_mem hj))
    · have e : ps.getD j [] = [] := by simp [List.getD, List.getElem?_eq_none hj]
      rw [e]; simp
  exact ⟨⟨h1, fun j => by have := key j; omega⟩, key⟩

/-- The state of the examples. -/
structure Lv (w W : World) (b1 g g8 g9 ga gb : Nat) (t1 t2 : Bool) (l1 l2 : List (List UInt8)) : Prop where
  below : Below w.heap.size w W
  b : W.heap[b1]? = some (.cells #[.bool false, .slice (some ⟨g, 0, none⟩) 3 3] 28 (0, 0))
  s8 : W.heap[g8]? = some (.cells #[.bool t1, .slice (some ⟨ga, 0, none⟩) l1.length l1.length] 28 (0, 0))
  r9 : W.heap[g9]? = some (.cells #[.bool t2, .slice (some ⟨gb, 0, none⟩) l2.length l2.length] 39 (0, 0))
  n : News W w.heap.size g [[1], [2], [3]]
  na : News W w.heap.size ga l1
  nb : News W w.heap.size gb l2
  ne : b1 ≠ g8
  ge8 : w.heap.size ≤ g8
  ge9 : w.heap.size ≤ g9
namespace Lv
variable {w W W' : World} {b1 g g8 g9 ga gb : Nat} {t1 t2 : Bool} {l1 l2 : List (List UInt8)}
theorem to (h : Lv w W b1 g g8 g9 ga gb t1 t2 l1 l2) (bb : Below W.heap.size W W') : Lv w W' b1 g g8 g9 ga gb t1 t2 l1 l2 :=
  ⟨h.below.trans (bb.mono h.below.size), (bb.block _ (block_lt h.b)).trans h.b, (bb.block _ (block_lt h.s8)).trans h.s8, (bb.block _ (block_lt h.r9)).trans h.r9, h.n.below bb, h.na.below bb, h.nb.below bb, h.ne, h.ge8, h.ge9⟩
theorem set8 (h : Lv w W b1 g g8 g9 ga gb t1 t2 l1 l2) {ga' : Nat} {l1' : List (List UInt8)} (hn : News W w.heap.size ga' l1') (t : Bool) :
    Lv w ((W.setCell ⟨g8, 0, none⟩ (.bool t)).setCell ⟨g8, 1, none⟩ (.slice (some ⟨ga', 0, none⟩) l1'.length l1'.length)) b1 g g8 g9 ga' gb t t2 l1' l2 := by
  have hg := grown_trans (grown_setCell W ⟨g8, 0, none⟩ (.bool t)) (grown_setCell (W.setCell ⟨g8, 0, none⟩ (.bool t)) ⟨g8, 1, none⟩ (.slice (some ⟨ga', 0, none⟩) l1'.length l1'.length))
  exact ⟨below2 h.below h.ge8 _ _, block_grown h.b hg (fun e => h.ne (Option.some.inj e)), set2 h.s8 _ _, block_grown h.r9 hg (fun e => block_ne h.r9 h.s8 (by decide) (Option.some.inj e)), h.n.stores2 h.s8 (by decide) (by decide) _ _, hn.stores2 h.s8 (by decide) (by decide) _ _, h.nb.stores2 h.s8 (by decide) (by decide) _ _, h.ne, h.ge8, h.ge9⟩
theorem set9 (h : Lv w W b1 g g8 g9 ga gb t1 t2 l1 l2) {gb' : Nat} {l2' : List (List UInt8)} (hn : News W w.heap.size gb' l2') (t : Bool) :
    Lv w ((W.setCell ⟨g9, 0, none⟩ (.bool t)).setCell ⟨g9, 1, none⟩ (.slice (some ⟨gb', 0, none⟩) l2'.length l2'.length)) b1 g g8 g9 ga gb' t1 t l1 l2' := by
  have hg := grown_trans (grown_setCell W ⟨g9, 0, none⟩ (.bool t)) (grown_setCell (W.setCell ⟨g9, 0, none⟩ (.bool t)) ⟨g9, 1, none⟩ (.slice (some ⟨gb', 0, none⟩) l2'.length l2'.length))
  exact ⟨below2 h.below h.ge9 _ _, block_grown h.b hg (fun e => block_ne h.b h.r9 (by decide) (Option.some.inj e)), block_grown h.s8 hg (fun e => block_ne h.s8 h.r9 (by decide) (Option.some.inj e)), set2 h.r9 _ _, h.n.stores2 h.r9 (by decide) (by decide) _ _, h.na.stores2 h.r9 (by decide) (by decide) _ _, hn.stores2 h.r9 (by decide) (by decide) _ _, h.ne, h.ge8, h.ge9⟩
end Lv

/-- Lists of one and of two packets of a byte. -/
theorem built1 (W : World) (v : Value) (x : UInt8) (hv : v = bv x) :
    Rds ((W.alloc (.cells #[v] 5)).alloc (.cells #[.slice (some ⟨W.heap.size, 0, none⟩) 1 1] 26)) ((W.alloc (.cells #[v] 5)).alloc (.cells #[.slice (some ⟨W.heap.size, 0, none⟩) 1 1] 26)).heap.size (some ⟨W.heap.size + 1, 0, none⟩) 1 [[x]] ∧
      Below W.heap.size W ((W.alloc (.cells #[v] 5)).alloc (.cells #[.slice (some ⟨W.heap.size, 0, none⟩) 1 1] 26)) := by
  subst hv
  have h1 := rd_top W 5 [x] (by simp)
  have h2 := rds_built (w := W.alloc (.cells #[bv x] 5)) [(some ⟨W.heap.size, 0, none⟩, 1, [x])] (by simp) (fun y hy => by
    obtain rfl := List.mem_singleton.1 hy
    exact h1)
  have hz : (W.alloc (.cells #[bv x] 5)).heap.size = W.heap.size + 1 := by simp
  rw [hz] at h2
  exact ⟨h2.more (by simp), ((Below.refl W.heap.size W).alloc (Nat.le_refl _) _).alloc (by simp) _⟩
theorem built2 (W : World) (v v' : Value) (x y : UInt8) (hv : v = bv x) (hv' : v' = bv y) :
    Rds (((W.alloc (.cells #[v] 5)).alloc (.cells #[v'] 5)).alloc (.cells #[.slice (some ⟨W.heap.size, 0, none⟩) 1 1, .slice (some ⟨W.heap.size + 1, 0, none⟩) 1 1] 26)) (((W.alloc (.cells #[v] 5)).alloc (.cells #[v'] 5)).alloc (.cells #[.slice (some ⟨W.heap.size, 0, none⟩) 1 1, .slice (some ⟨W.heap.size + 1, 0, none⟩) 1 1] 26)).heap.size (some ⟨W.heap.size + 1 + 1, 0, none⟩) 2 [[x], [y]] ∧
      Below W.heap.size W (((W.alloc (.cells #[v] 5)).alloc (.cells #[v'] 5)).alloc (.cells #[.slice (some ⟨W.heap.size, 0, none⟩) 1 1, .slice (some ⟨W.heap.size + 1, 0, none⟩) 1 1] 26)) := by
  subst hv; subst hv'
  have hz : (W.alloc (.cells #[bv x] 5)).heap.size = W.heap.size + 1 := by simp
  have h1 := (rd_top W 5 [x] (by simp)).belowTop ((Below.refl _ _).alloc (Nat.le_refl _) (.cells #[bv y] 5))
  have h1' := rd_top (W.alloc (.cells #[bv x] 5)) 5 [y] (by simp)
  rw [hz] at h1'
  have h2 := rds_built (w := (W.alloc (.cells #[bv x] 5)).alloc (.cells #[bv y] 5)) [(some ⟨W.heap.size, 0, none⟩, 1, [x]), (some ⟨W.heap.size + 1, 0, none⟩, 1, [y])] (by simp) (fun z hz => by
    rcases List.mem_cons.1 hz with rfl | hz
    · exact h1
    · obtain rfl := List.mem_singleton.1 hz
      exact h1')
  have hz2 : ((W.alloc (.cells #[bv x] 5)).alloc (.cells #[bv y] 5)).heap.size = W.heap.size + 1 + 1 := by simp
  rw [hz2] at h2
  exact ⟨h2.more (by simp), (((Below.refl W.heap.size W).alloc (Nat.le_refl _) _).alloc (by simp) _).alloc (by simp; omega) _⟩

theorem built3 (W : World) :
    Rds ((((W.alloc (.cells #[.int .u8 1] 5)).alloc (.cells #[.int .u8 2] 5)).alloc (.cells #[.int .u8 3] 5)).alloc (.cells #[.slice (some ⟨W.heap.size, 0, none⟩) 1 1, .slice (some ⟨W.heap.size + 1, 0, none⟩) 1 1, .slice (some ⟨W.heap.size + 1 + 1, 0, none⟩) 1 1] 26)) ((((W.alloc (.cells #[.int .u8 1] 5)).alloc (.cells #[.int .u8 2] 5)).alloc (.cells #[.int .u8 3] 5)).alloc (.cells #[.slice (some ⟨W.heap.size, 0, none⟩) 1 1, .slice (some ⟨W.heap.size + 1, 0, none⟩) 1 1, .slice (some ⟨W.heap.size + 1 + 1, 0, none⟩) 1 1] 26)).heap.size (some ⟨W.heap.size + 1 + 1 + 1, 0, none⟩) 3 [[1], [2], [3]] ∧
      Below W.heap.size W ((((W.alloc (.cells #[.int .u8 1] 5)).alloc (.cells #[.int .u8 2] 5)).alloc (.cells #[.int .u8 3] 5)).alloc (.cells #[.slice (some ⟨W.heap.size, 0, none⟩) 1 1, .slice (some ⟨W.heap.size + 1, 0, none⟩) 1 1, .slice (some ⟨W.heap.size + 1 + 1, 0, none⟩) 1 1] 26)) := by
  have hz : (W.alloc (.cells #[bv 1] 5)).heap.size = W.heap.size + 1 := by simp
  have hz2 : ((W.alloc (.cells #[bv 1] 5)).alloc (.cells #[bv 2] 5)).heap.size = W.heap.size + 1 + 1 := by simp
  have hz3 : (((W.alloc (.cells #[bv 1] 5)).alloc (.cells #[bv 2] 5)).alloc (.cells #[bv 3] 5)).heap.size = W.heap.size + 1 + 1 + 1 := by simp
  have h1 := ((rd_top W 5 [1] (by simp)).belowTop ((Below.refl _ _).alloc (Nat.le_refl _) (.cells #[bv 2] 5))).belowTop ((Below.refl _ _).alloc (Nat.le_refl _) (.cells #[bv 3] 5))
  have h2 := (rd_top (W.alloc (.cells #[bv 1] 5)) 5 [2] (by simp)).belowTop ((Below.refl _ _).alloc (Nat.le_refl _) (.cells #[bv 3] 5))
  have h3 := rd_top ((W.alloc (.cells #[bv 1] 5)).alloc (.cells #[bv 2] 5)) 5 [3] (by simp)
  rw [hz] at h2
  rw [hz2] at h3
  have hh := rds_built (w := ((W.alloc (.cells #[bv 1] 5)).alloc (.cells #[bv 2] 5)).alloc (.cells #[bv 3] 5)) [(some ⟨W.heap.size, 0, none⟩, 1, [1]), (some ⟨W.heap.size + 1, 0, none⟩, 1, [2]), (some ⟨W.heap.size + 1 + 1, 0, none⟩, 1, [3])] (by simp) (fun z hz => by
    rcases List.mem_cons.1 hz with rfl | hz
    · exact h1
    · rcases List.mem_cons.1 hz with rfl | hz
      · exact h2
      · obtain rfl := List.mem_singleton.1 hz
        exact h3)
  rw [hz3] at hh
  exact ⟨hh.more (by simp), ((((Below.refl W.heap.size W).alloc (Nat.le_refl _) _).alloc (by simp) _).alloc (by simp; omega) _).alloc (by simp; omega) _⟩
theorem rdx_one (W : World) (d a : Bool) : RdX (W.alloc (.cells #[.bool d, .bool a] 56)) (W.alloc (.cells #[.bool d, .bool a] 56)).heap.size (some ⟨W.heap.size, 0, none⟩) 1 [(d, a)] :=
  ⟨by simp, by omega, fun _ => ⟨W.heap.size, 0, rfl, by simp, fun j hj => by
    obtain rfl : j = 0 := by simpa using hj
    exact ⟨block_at (heap_alloc_new W _) rfl, block_at (heap_alloc_new W _) rfl⟩⟩⟩
theorem builtZ (W : World) (n : Nat) (hn : n ≤ 100000) :
    Rds ((W.alloc (.cells (madeCells #[.int .u8 0] n) 5)).alloc (.cells #[.slice (some ⟨W.heap.size, 0, none⟩) n n] 26)) ((W.alloc (.cells (madeCells #[.int .u8 0] n) 5)).alloc (.cells #[.slice (some ⟨W.heap.size, 0, none⟩) n n] 26)).heap.size (some ⟨W.heap.size + 1, 0, none⟩) 1 [List.replicate n 0] ∧
      Below W.heap.size W ((W.alloc (.cells (madeCells #[.int .u8 0] n) 5)).alloc (.cells #[.slice (some ⟨W.heap.size, 0, none⟩) n n] 26)) := by
  have h1 := (Row.made W n 5).rd (by rw [List.length_replicate]; omega)
  have h2 := rds_built (w := W.alloc (.cells (madeCells #[.int .u8 0] n) 5)) [(some ⟨W.heap.size, 0, none⟩, (List.replicate n (0 : UInt8)).length, List.replicate n 0)] (by simp) (fun y hy => by
    obtain rfl := List.mem_singleton.1 hy
    exact h1)
  have hz : (W.alloc (.cells (madeCells #[.int .u8 0] n) 5)).heap.size = W.heap.size + 1 := by simp
  rw [hz] at h2
  simp only [List.map_cons, List.map_nil, List.length_replicate, List.length_cons, List.length_nil] at h2
  exact ⟨h2.more (by simp), ((Below.refl W.heap.size W).alloc (Nat.le_refl _) _).alloc (by simp) _⟩
theorem lists_n (W : World) (n : Nat) (A A' : Option Addr) (c c' : Nat) (ps : List (List UInt8)) (hn : ps.length = n) (h : Rds W W.heap.size A c ps) (h' : Rds W W.heap.size A' c' ps) (hl : n ≤ 1000000) :
    Calls Try.prog 12 #[.slice A n c, .slice A' n c'] W fun e w' => e = .returned (.int .i64 0) ∧ Below W.heap.size W w' := by
  subst hn
  exact lists_any W A A' c c' ps h h' hl

end Go.Proofs.Ytjilbgdenolllaa
