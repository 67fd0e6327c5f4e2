/-
  Helper text: the tables of names; identifiers; what is left of a packet that was sent; no statement is proved here.
-/
import Derived.Test.YtgihpgdjkanodaaGreatDoorSame
import Derived.Lib.LaidTab
namespace Go.Proofs.YtgihpgdjkanodaaGreatDoor
open Go Go.RowKit

/-- The names of the identifiers. -/
def pidL : List (List UInt8) := [[], [111, 117, 116], [97, 99, 107], [100, 97, 116, 97, 48], [], [115, 111, 102], [110, 121, 101, 116], [], [115, 112, 108, 105, 116], [105, 110], [110, 97, 107], [100, 97, 116, 97, 49], [], [115, 101, 116, 117, 112], [115, 116, 97, 108, 108], []]
def stepL : List (List UInt8) := [[115, 116, 97, 114, 116], [99, 111, 109, 112, 108, 101, 116, 101]]
def kindL : List (List UInt8) := [[99, 111, 110, 116, 114, 111, 108], [105, 115, 111, 99, 104, 114, 111, 110, 111, 117, 115], [98, 117, 108, 107], [105, 110, 116, 101, 114, 114, 117, 112, 116]]
/-- The string of bytes. -/
abbrev stv (xs : List UInt8) : Value := .string ⟨xs.toArray⟩
/-- The tables hold what the text lays. -/
structure Laid (w : World) : Prop where
  pid : ∀ j, j < 16 → w.cell? ⟨0, j, none⟩ = some (stv (pidL.getD j []))
theorem Laid.below {w w' : World} (h : Laid w) (hb : Below w.heap.size w w') : Laid w' :=
  ⟨fun j hj => (hb.cell (World.block_lt_of_cell? _ _ (h.pid j hj))).trans (h.pid j hj)⟩

/-- The identifiers. -/
def known (p : Nat) : Bool := p == 1 || p == 2 || p == 3 || p == 5 || p == 6 || p == 8 || p == 9 || p == 10 || p == 11 || p == 13 || p == 14
theorem known_lt {p : Nat} (h : known p = true) : p < 16 := by
  unfold known at h
  simp only [Bool.or_eq_true, beq_iff_eq] at h
  omega
theorem known_name {p : Nat} (h : p < 16) : known p = !decide (pidL.getD p [] = []) := by
  rcases (by omega : p = 0 ∨ p = 1 ∨ p = 2 ∨ p = 3 ∨ p = 4 ∨ p = 5 ∨ p = 6 ∨ p = 7 ∨ p = 8 ∨ p = 9 ∨ p = 10 ∨ p = 11 ∨ p = 12 ∨ p = 13 ∨ p = 14 ∨ p = 15) with rfl | rfl | rfl | rfl | rfl | rfl | rfl | rfl | rfl | rfl | rfl | rfl | rfl | rfl | rfl | rfl <;> rfl

set_option maxRecDepth 100000 in
theorem isIdent_core (w : World) (p : Nat) (hp : p < 16) (s : ByteArray) (b : Bool) (hc : w.cell? ⟨0, p, none⟩ = some (.string s)) (hb : s.toList.isEmpty = b) :
    Calls Tryz.prog 61 #[.int .u8 (p : Int)] w fun e w' => e = .returned (.bool !b) ∧ w' = w := by
  subst hb
  go_enter Tryz.func61, Tryz.ntmps61
  go_wp2
  go_ret
  exact ⟨rfl, rfl⟩
set_option maxRecDepth 100000 in
theorem isIdent_high (w : World) (p : Nat) (hp : 16 ≤ p) (hp2 : p < 256) :
    Calls Tryz.prog 61 #[.int .u8 (p : Int)] w fun e w' => e = .returned (.bool false) ∧ w' = w := by
  have h1 : ¬ (p : Int) < 16 := by omega
  go_enter Tryz.func61, Tryz.ntmps61
  go_wp2
  go_ret
  exact ⟨rfl, rfl⟩
theorem emptyStr (xs : List UInt8) : (⟨xs.toArray⟩ : ByteArray).toList.isEmpty = decide (xs = []) := by
  rw [ByteArray.toList_eq]
  cases xs <;> rfl
theorem isIdent_any (w : World) (hL : Laid w) (p : Nat) (hp : p < 256) : Calls Tryz.prog 61 #[.int .u8 (p : Int)] w fun e w' => e = .returned (.bool (known p)) ∧ w' = w := by
  rcases Nat.lt_or_ge p 16 with h | h
  · rw [known_name h]
    exact isIdent_core w p h _ _ (hL.pid p h) (emptyStr (pidL.getD p []))
  · rw [show known p = false from by
      cases hk : known p
      · rfl
      · exact absurd (known_lt hk) (by omega)]
    exact isIdent_high w p h hp
/-- Whether a packet with this identifier has data. -/
def isD (p : Nat) : Bool := p == 3 || p == 11
set_option maxRecDepth 100000 in
theorem isData_any (w : World) (p : Nat) : Calls Tryz.prog 85 #[.int .u8 (p : Int)] w fun e w' => e = .returned (.bool (isD p)) ∧ w' = w := by
  by_cases h3 : p = 3
  · subst h3
    go_enter Tryz.func85, Tryz.ntmps85
    go_wp2
    go_ret
    exact ⟨rfl, rfl⟩
  by_cases h11 : p = 11
  · subst h11
    go_enter Tryz.func85, Tryz.ntmps85
    go_wp2
    go_ret
    exact ⟨rfl, rfl⟩
  have t3 : ((p : Int) == 3) = false := by rw [beq_eq_false_iff_ne]; omega
  have t11 : ((p : Int) == 11) = false := by rw [beq_eq_false_iff_ne]; omega
  have hd : isD p = false := by unfold isD; rw [beq_eq_false_iff_ne.2 h3, beq_eq_false_iff_ne.2 h11]; rfl
  rw [hd]
  go_enter Tryz.func85, Tryz.ntmps85
  go_wp2
  go_ret
  exact ⟨rfl, rfl⟩

/-- A packet with an identifier alone. -/
def bare (p : Nat) : Rg := ⟨p, 0, 0, 0, 0, 0, false, false, 0, .slice none 0 0, 0⟩
/-- What is left of a packet that was sent. -/
def keptR (r : Rg) (D : Value) : Rg := { unpackN (fieldsL r.pid) (packN (fieldsL r.pid) { r with spare := 0 } (fieldsL r.pid).length) (bare r.pid) (fieldsL r.pid).length with data := D }
theorem Fd.set_data (r : Rg) (v : Nat) (f : Fd) : (f.set r v).data = r.data := by cases f <;> rfl
theorem Fd.set_pid (r : Rg) (v : Nat) (f : Fd) : (f.set r v).pid = r.pid := by cases f <;> rfl
theorem unpackN_data (fs : List Fd) (v : Nat) (r : Rg) (k : Nat) : (unpackN fs v r k).data = r.data := by
  induction k with
  | zero => rfl
  | succ k ih => exact (Fd.set_data _ _ _).trans ih
theorem unpackN_pid (fs : List Fd) (v : Nat) (r : Rg) (k : Nat) : (unpackN fs v r k).pid = r.pid := by
  induction k with
  | zero => rfl
  | succ k ih => exact (Fd.set_pid _ _ _).trans ih
theorem fields_len (p : Nat) : (fieldsL p).length ≤ 100 := by
  unfold fieldsL
  split
  · decide
  split
  · decide
  split <;> decide
theorem fields_place (p : Nat) (k : Nat) (h : k < (fieldsL p).length) : placeN (fieldsL p) k ≤ 31 := by
  unfold fieldsL at *
  split at h
  · rename_i hp; rw [if_pos hp]; exact Nat.le_trans (placeN_le _ _) (by simp at h; omega)
  rename_i hp
  rw [if_neg hp]
  split at h
  · rename_i hq; rw [if_pos hq]; exact Nat.le_trans (placeN_le _ _) (by simp at h; omega)
  rename_i hq
  rw [if_neg hq]
  split at h
  · rename_i hr; rw [if_pos hr]
    simp only [List.length_cons, List.length_nil] at h
    rcases (by omega : k = 0 ∨ k = 1 ∨ k = 2 ∨ k = 3 ∨ k = 4 ∨ k = 5) with rfl | rfl | rfl | rfl | rfl | rfl <;> decide
  · simp at h
theorem bare_ok {p : Nat} (h : p < 256) : (bare p).Ok := ⟨h, Nat.succ_pos _, Nat.succ_pos _, Nat.succ_pos _, Nat.succ_pos _, Nat.succ_pos _, Nat.succ_pos _, Nat.succ_pos _⟩

/-- A packet is stored whole. -/
theorem store10 {W : World} {B : Nat} {t : TypeId} (a0 a1 a2 a3 a4 a5 a6 a7 a8 a9 v0 v1 v2 v3 v4 v5 v6 v7 v8 v9 : Value) (h : W.heap[B]? = some (.cells #[a0, a1, a2, a3, a4, a5, a6, a7, a8, a9] t (0, 0))) :
    (((((((((((W.setCell ⟨B, 0, none⟩ v0).setCell ⟨B, 1, none⟩ v1).setCell ⟨B, 2, none⟩ v2).setCell ⟨B, 3, none⟩ v3).setCell ⟨B, 4, none⟩ v4).setCell ⟨B, 5, none⟩ v5).setCell ⟨B, 6, none⟩ v6).setCell ⟨B, 7, none⟩ v7).setCell ⟨B, 8, none⟩ v8).setCell ⟨B, 9, none⟩ v9)).heap[B]? = some (.cells #[v0, v1, v2, v3, v4, v5, v6, v7, v8, v9] t (0, 0)) := by
  have h0 := store_at h 0 v0
  simp only [List.setIfInBounds_toArray, List.set_cons_zero, List.set_cons_succ] at h0
  have h1 := store_at h0 1 v1
  simp only [List.setIfInBounds_toArray, List.set_cons_zero, List.set_cons_succ] at h1
  have h2 := store_at h1 2 v2
  simp only [List.setIfInBounds_toArray, List.set_cons_zero, List.set_cons_succ] at h2
  have h3 := store_at h2 3 v3
  simp only [List.setIfInBounds_toArray, List.set_cons_zero, List.set_cons_succ] at h3
  have h4 := store_at h3 4 v4
  simp only [List.setIfInBounds_toArray, List.set_cons_zero, List.set_cons_succ] at h4
  have h5 := store_at h4 5 v5
  simp only [List.setIfInBounds_toArray, List.set_cons_zero, List.set_cons_succ] at h5
  have h6 := store_at h5 6 v6
  simp only [List.setIfInBounds_toArray, List.set_cons_zero, List.set_cons_succ] at h6
  have h7 := store_at h6 7 v7
  simp only [List.setIfInBounds_toArray, List.set_cons_zero, List.set_cons_succ] at h7
  have h8 := store_at h7 8 v8
  simp only [List.setIfInBounds_toArray, List.set_cons_zero, List.set_cons_succ] at h8
  have h9 := store_at h8 9 v9
  simp only [List.setIfInBounds_toArray, List.set_cons_zero, List.set_cons_succ] at h9
  exact h9
theorem below10 {W w : World} {B n : Nat} (v0 v1 v2 v3 v4 v5 v6 v7 v8 v9 : Value) (h : Below n w W) (hB : n ≤ B) : Below n w ((((((((((W.setCell ⟨B, 0, none⟩ v0).setCell ⟨B, 1, none⟩ v1).setCell ⟨B, 2, none⟩ v2).setCell ⟨B, 3, none⟩ v3).setCell ⟨B, 4, none⟩ v4).setCell ⟨B, 5, none⟩ v5).setCell ⟨B, 6, none⟩ v6).setCell ⟨B, 7, none⟩ v7).setCell ⟨B, 8, none⟩ v8).setCell ⟨B, 9, none⟩ v9) :=
  (Below.setCell (p := ⟨B, 9, none⟩) (Below.setCell (p := ⟨B, 8, none⟩) (Below.setCell (p := ⟨B, 7, none⟩) (Below.setCell (p := ⟨B, 6, none⟩) (Below.setCell (p := ⟨B, 5, none⟩) (Below.setCell (p := ⟨B, 4, none⟩) (Below.setCell (p := ⟨B, 3, none⟩) (Below.setCell (p := ⟨B, 2, none⟩) (Below.setCell (p := ⟨B, 1, none⟩) (Below.setCell (p := ⟨B, 0, none⟩) h hB v0) hB v1) hB v2) hB v3) hB v4) hB v5) hB v6) hB v7) hB v8) hB v9)

set_option maxHeartbeats 400000 in
set_option maxRecDepth 100000 in
theorem kept_core (w : World) (r : Rg) (ok : r.Ok) (A : Option Addr) (n c : Nat) (hd : r.data = .slice A n c) (isd : Bool) (D : Value) (hD : (isd = true ∧ D = .slice A n c) ∨ (isd = false ∧ D = .slice none 0 0)) (hi : isD r.pid = isd) :
    Calls Tryz.prog 63 #[.agg (pcells r)] w fun e w' => e = .returned (.agg (pcells (keptR r D))) ∧ Below w.heap.size w w' := by
  have KD := Lib.hid fun W => isData_any W r.pid
  rw [hi] at KD
  have KF := Lib.hid fun W => fieldsOf_any W r.pid ok.pid
  have KP := Lib.hid fun W B A h1 h2 => packed_any W B { r with spare := 0 } A (fieldsL r.pid) h1 ⟨ok.pid, ok.addr, ok.endp, ok.frame, ok.hub, ok.port, ok.kind, Nat.succ_pos _⟩ h2 (fields_len _) (fields_place _)
  have KU := Lib.hid fun W B A v hv h1 h2 h3 => unpack_any W B (bare r.pid) A (fieldsL r.pid) v hv h1 h2 (fields_len _) (fields_place _) h3
  have hvlt := packN_lt (fieldsL r.pid) { r with spare := 0 } (fieldsL r.pid).length
  obtain ⟨p0, p1, p2, p3, p4, p5, p6, p7, p8, p9, p10⟩ := r
  simp only at hd hi KD KF KP KU hvlt
  subst hd
  unfold keptR
  simp only [pcells]
  generalize fieldsL p0 = fs at KF KP KU hvlt ⊢
  generalize packN fs _ fs.length = v at KP hvlt ⊢
  have h0h := Lib.hid (fun (W : World) (o o' : Obj) (k : Nat) (h : W.heap[k]? = some o') => (Below.heap_alloc W o k (lt_of_block h)).trans h)
  have hDh := Lib.hid hD
  clear hD hi
  go_enter Tryz.func63, Tryz.ntmps63
  go_wp2_with fail
  have hb0 := h0h.out _ (.cells #[.int .u8 0, .int .u8 0, .int .u8 0, .int .u16 0, .int .u8 0, .int .u8 0, .bool false, .bool false, .int .u8 0, .slice none 0 0] 82) _ _ (heap_alloc_new w (.cells #[.int .u8 (p0 : Int), .int .u8 (p1 : Int), .int .u8 (p2 : Int), .int .u16 (p3 : Int), .int .u8 (p4 : Int), .int .u8 (p5 : Int), .bool p6, .bool p7, .int .u8 (p8 : Int), .slice A n c] 82))
  have hb1 := heap_alloc_new (w.alloc (.cells #[.int .u8 (p0 : Int), .int .u8 (p1 : Int), .int .u8 (p2 : Int), .int .u16 (p3 : Int), .int .u8 (p4 : Int), .int .u8 (p5 : Int), .bool p6, .bool p7, .int .u8 (p8 : Int), .slice A n c] 82)) (.cells #[.int .u8 0, .int .u8 0, .int .u8 0, .int .u16 0, .int .u8 0, .int .u8 0, .bool false, .bool false, .int .u8 0, .slice none 0 0] 82)
  rw [show (w.alloc (.cells #[.int .u8 (p0 : Int), .int .u8 (p1 : Int), .int .u8 (p2 : Int), .int .u16 (p3 : Int), .int .u8 (p4 : Int), .int .u8 (p5 : Int), .bool p6, .bool p7, .int .u8 (p8 : Int), .slice A n c] 82)).heap.size = w.heap.size + 1 by simp] at hb1
  refine (KF.out _).mono ?_
  rintro e w1 ⟨A1, rfl, hF1, hB1, hA1⟩
  have hbW := ((Below.refl w.heap.size w).alloc (Nat.le_refl _) (.cells #[.int .u8 (p0 : Int), .int .u8 (p1 : Int), .int .u8 (p2 : Int), .int .u16 (p3 : Int), .int .u8 (p4 : Int), .int .u8 (p5 : Int), .bool p6, .bool p7, .int .u8 (p8 : Int), .slice A n c] 82)).alloc (by simp) (.cells #[.int .u8 0, .int .u8 0, .int .u8 0, .int .u16 0, .int .u8 0, .int .u8 0, .bool false, .bool false, .int .u8 0, .slice none 0 0] 82)
  generalize (w.alloc (.cells #[.int .u8 (p0 : Int), .int .u8 (p1 : Int), .int .u8 (p2 : Int), .int .u16 (p3 : Int), .int .u8 (p4 : Int), .int .u8 (p5 : Int), .bool p6, .bool p7, .int .u8 (p8 : Int), .slice A n c] 82)).alloc (.cells #[.int .u8 0, .int .u8 0, .int .u8 0, .int .u16 0, .int .u8 0, .int .u8 0, .bool false, .bool false, .int .u8 0, .slice none 0 0] 82) = W0 at hb0 hb1 hB1 hA1 hbW
  have hb0' := Lib.hid ((hB1.block _ (lt_of_block hb0)).trans hb0)
  have hb1' := Lib.hid ((hB1.block _ (lt_of_block hb1)).trans hb1)
  have hbel := Lib.hid (hbW.trans (hB1.mono hbW.size))
  have hFh := Lib.hid hF1
  have hAh := Lib.hid (fun g (e : A1 = some ⟨g, 0, none⟩) => Nat.lt_of_lt_of_le (lt_of_block hb1) (hA1 g e))
  clear hb0 hb1 hB1 hbW hF1 hA1
  have hl0 := lt_of_block hb0'.out
  have hl1 := lt_of_block hb1'.out
  have c0 : w1.cell? ⟨w.heap.size, 0, none⟩ = some (.int .u8 (p0 : Int)) := cell_at hb0'.out 0
  have c1 : w1.cell? ⟨w.heap.size, 1, none⟩ = some (.int .u8 (p1 : Int)) := cell_at hb0'.out 1
  have c2 : w1.cell? ⟨w.heap.size, 2, none⟩ = some (.int .u8 (p2 : Int)) := cell_at hb0'.out 2
  have c3 : w1.cell? ⟨w.heap.size, 3, none⟩ = some (.int .u16 (p3 : Int)) := cell_at hb0'.out 3
  have c4 : w1.cell? ⟨w.heap.size, 4, none⟩ = some (.int .u8 (p4 : Int)) := cell_at hb0'.out 4
  have c5 : w1.cell? ⟨w.heap.size, 5, none⟩ = some (.int .u8 (p5 : Int)) := cell_at hb0'.out 5
  have c6 : w1.cell? ⟨w.heap.size, 6, none⟩ = some (.bool p6) := cell_at hb0'.out 6
  have c7 : w1.cell? ⟨w.heap.size, 7, none⟩ = some (.bool p7) := cell_at hb0'.out 7
  have c8 : w1.cell? ⟨w.heap.size, 8, none⟩ = some (.int .u8 (p8 : Int)) := cell_at hb0'.out 8
  have c9 : w1.cell? ⟨w.heap.size, 9, none⟩ = some (.slice A n c) := cell_at hb0'.out 9
  go_wp2_with fail
  have hX := heap_alloc_new (w1.alloc (.cells (rcells (bare p0)) 164)) (.cells #[.int .u8 (p0 : Int), .int .u8 (p1 : Int), .int .u8 (p2 : Int), .int .u16 (p3 : Int), .int .u8 (p4 : Int), .int .u8 (p5 : Int), .bool p6, .bool p7, .int .u8 (p8 : Int), .slice A n c, .int .u32 0] 164)
  rw [show (w1.alloc (.cells (rcells (bare p0)) 164)).heap.size = w1.heap.size + 1 by simp] at hX
  have hLb := h0h.out _ (.cells #[.int .u8 (p0 : Int), .int .u8 (p1 : Int), .int .u8 (p2 : Int), .int .u16 (p3 : Int), .int .u8 (p4 : Int), .int .u8 (p5 : Int), .bool p6, .bool p7, .int .u8 (p8 : Int), .slice A n c, .int .u32 0] 164) _ _ (heap_alloc_new w1 (.cells (rcells (bare p0)) 164))
  have hF2 : FRd ((w1.alloc (.cells (rcells (bare p0)) 164)).alloc (.cells #[.int .u8 (p0 : Int), .int .u8 (p1 : Int), .int .u8 (p2 : Int), .int .u16 (p3 : Int), .int .u8 (p4 : Int), .int .u8 (p5 : Int), .bool p6, .bool p7, .int .u8 (p8 : Int), .slice A n c, .int .u32 0] 164)) A1 fs := fun hl => by
    obtain ⟨g, e, hr⟩ := hFh.out hl
    exact ⟨g, e, h0h.out _ _ _ _ (h0h.out _ _ _ _ hr)⟩
  have hAlt : ∀ g, A1 = some ⟨g, 0, none⟩ → 0 < fs.length → g < w1.heap.size := fun g e hl => by
    obtain ⟨g', e', hr⟩ := hFh.out hl
    rw [e] at e'
    obtain rfl : g = g' := by injection e' with e'; injection e'
    exact lt_of_block hr
  have hbW := (((Below.refl w1.heap.size w1).alloc (Nat.le_refl _) (.cells (rcells (bare p0)) 164)).alloc (by simp) (.cells #[.int .u8 (p0 : Int), .int .u8 (p1 : Int), .int .u8 (p2 : Int), .int .u16 (p3 : Int), .int .u8 (p4 : Int), .int .u8 (p5 : Int), .bool p6, .bool p7, .int .u8 (p8 : Int), .slice A n c, .int .u32 0] 164))
  refine (KP.out _ (w1.heap.size + 1) A1 hX hF2).mono ?_
  rintro e w3 ⟨rfl, hB3⟩
  generalize (w1.alloc (.cells (rcells (bare p0)) 164)).alloc (.cells #[.int .u8 (p0 : Int), .int .u8 (p1 : Int), .int .u8 (p2 : Int), .int .u16 (p3 : Int), .int .u8 (p4 : Int), .int .u8 (p5 : Int), .bool p6, .bool p7, .int .u8 (p8 : Int), .slice A n c, .int .u32 0] 164) = W2 at hLb hF2 hbW hB3
  have hLb3 := Lib.hid ((hB3.block _ (lt_of_block hLb)).trans hLb)
  have hF3 : Hid (FRd w3 A1 fs) := Lib.hid fun hl => by
    obtain ⟨g, e, hr⟩ := hF2 hl
    exact ⟨g, e, (hB3.block _ (lt_of_block hr)).trans hr⟩
  have hb13 := Lib.hid (hbW.trans (hB3.mono hbW.size))
  have hAlth := Lib.hid hAlt
  clear hX hLb hF2 hbW hB3 hAlt
  go_wp2_with fail
  refine (KU.out w3 w1.heap.size A1 v hvlt hLb3.out hF3.out (fun g e hl => by have := hAlth.out g e hl; omega)).mono ?_
  rintro e w4 ⟨rfl, hLU, hg4⟩
  obtain ⟨U, hU⟩ : ∃ U, unpackN fs v (bare p0) fs.length = U := ⟨_, rfl⟩
  have hUh := Lib.hid hU
  rw [hU] at hLU
  have hu9 := unpackN_data fs v (bare p0) fs.length
  rw [hU] at hu9
  clear hU
  obtain ⟨u0, u1, u2, u3, u4, u5, u6, u7, u8, u9, u10⟩ := U
  replace hu9 : u9 = .slice none 0 0 := hu9
  subst hu9
  simp only [rcells] at hLU
  have hb14 : ∀ k o, k < w1.heap.size → w1.heap[k]? = some o → w4.heap[k]? = some o := fun k o hk ho => by
    rw [hg4.block k (by have := hb13.out.size; omega) (fun e => by injection e; omega), hb13.out.block k hk]; exact ho
  have hb04 := Lib.hid (hb14 _ _ hl0 hb0'.out)
  have hb14' := Lib.hid (hb14 _ _ hl1 hb1'.out)
  have hLUh := Lib.hid hLU
  have hfin := Lib.hid (hbel.out.trans ((hb13.out.grown hg4 hb13.out.size fun k e => by cases e; exact Nat.le_refl _).mono hbel.out.size))
  clear c0 c1 c2 c3 c4 c5 c6 c7 c8 c9 hb14 hLU hg4 hb13 hF3 hLb3 hAlth hb0' hb1' hbel hFh hAh
  have c0 : w4.cell? ⟨w.heap.size, 0, none⟩ = some (.int .u8 (p0 : Int)) := cell_at hb04.out 0
  have c9 : w4.cell? ⟨w.heap.size, 9, none⟩ = some (.slice A n c) := cell_at hb04.out 9
  go_wp2_with fail
  refine (KD.out w4).mono ?_
  rintro e w5 ⟨rfl, rfl⟩
  clear c0
  have l0 : w5.cell? ⟨w1.heap.size, 0, none⟩ = some (.int .u8 (u0 : Int)) := cell_at hLUh.out 0
  have l1 : w5.cell? ⟨w1.heap.size, 1, none⟩ = some (.int .u8 (u1 : Int)) := cell_at hLUh.out 1
  have l2 : w5.cell? ⟨w1.heap.size, 2, none⟩ = some (.int .u8 (u2 : Int)) := cell_at hLUh.out 2
  have l3 : w5.cell? ⟨w1.heap.size, 3, none⟩ = some (.int .u16 (u3 : Int)) := cell_at hLUh.out 3
  have l4 : w5.cell? ⟨w1.heap.size, 4, none⟩ = some (.int .u8 (u4 : Int)) := cell_at hLUh.out 4
  have l5 : w5.cell? ⟨w1.heap.size, 5, none⟩ = some (.int .u8 (u5 : Int)) := cell_at hLUh.out 5
  have l6 : w5.cell? ⟨w1.heap.size, 6, none⟩ = some (.bool u6) := cell_at hLUh.out 6
  have l7 : w5.cell? ⟨w1.heap.size, 7, none⟩ = some (.bool u7) := cell_at hLUh.out 7
  have l8 : w5.cell? ⟨w1.heap.size, 8, none⟩ = some (.int .u8 (u8 : Int)) := cell_at hLUh.out 8
  have l9 : w5.cell? ⟨w1.heap.size, 9, none⟩ = some (.slice none 0 0) := cell_at hLUh.out 9
  have r0 : w5.cell? ⟨w.heap.size + 1, 0, none⟩ = some (.int .u8 0) := cell_at hb14'.out 0
  have r1 : w5.cell? ⟨w.heap.size + 1, 1, none⟩ = some (.int .u8 0) := cell_at hb14'.out 1
  have r2 : w5.cell? ⟨w.heap.size + 1, 2, none⟩ = some (.int .u8 0) := cell_at hb14'.out 2
  have r3 : w5.cell? ⟨w.heap.size + 1, 3, none⟩ = some (.int .u16 0) := cell_at hb14'.out 3
  have r4 : w5.cell? ⟨w.heap.size + 1, 4, none⟩ = some (.int .u8 0) := cell_at hb14'.out 4
  have r5 : w5.cell? ⟨w.heap.size + 1, 5, none⟩ = some (.int .u8 0) := cell_at hb14'.out 5
  have r6 : w5.cell? ⟨w.heap.size + 1, 6, none⟩ = some (.bool false) := cell_at hb14'.out 6
  have r7 : w5.cell? ⟨w.heap.size + 1, 7, none⟩ = some (.bool false) := cell_at hb14'.out 7
  have r8 : w5.cell? ⟨w.heap.size + 1, 8, none⟩ = some (.int .u8 0) := cell_at hb14'.out 8
  have r9 : w5.cell? ⟨w.heap.size + 1, 9, none⟩ = some (.slice none 0 0) := cell_at hb14'.out 9
  have fL : ∀ i, w5.frozen? ⟨w1.heap.size, i, none⟩ = false := fun i => by simp [World.frozen?, hLUh.out]
  have fR : ∀ i, w5.frozen? ⟨w.heap.size + 1, i, none⟩ = false := fun i => by simp [World.frozen?, hb14'.out]
  have ne1 : w1.heap.size ≠ w.heap.size + 1 := by omega
  have ne2 : w.heap.size + 1 ≠ w1.heap.size := by omega
  rcases hDh.out with ⟨rfl, rfl⟩ | ⟨rfl, rfl⟩
  · have hb15 := Lib.hid ((Below.heap_setCell w5 ⟨w1.heap.size, 9, none⟩ (.slice A n c) (w.heap.size + 1) (fun e => ne2 e)).trans hb14'.out)
    go_wp2
    refine bodyPost_ret (results_cell_row rfl _ _ (w.heap.size + 1) _ _ _ _ rfl (store10 _ _ _ _ _ _ _ _ _ _ _ _ _ _ _ _ _ _ _ _ hb15.out) Tryz.underlying82 rfl (by kernel_rfl)) rfl ?_
    rw [hUh.out]
    exact ⟨rfl, below10 _ _ _ _ _ _ _ _ _ _ (Below.setCell (p := ⟨w1.heap.size, 9, none⟩) hfin.out (Nat.le_trans (Nat.le_succ _) (Nat.le_of_lt hl1)) _) (Nat.le_succ _)⟩
  · go_wp2
    refine bodyPost_ret (results_cell_row rfl _ _ (w.heap.size + 1) _ _ _ _ rfl (store10 _ _ _ _ _ _ _ _ _ _ _ _ _ _ _ _ _ _ _ _ hb14'.out) Tryz.underlying82 rfl (by kernel_rfl)) rfl ?_
    rw [hUh.out]
    exact ⟨rfl, below10 _ _ _ _ _ _ _ _ _ _ hfin.out (Nat.le_succ _)⟩
/-- What is kept of the data. -/
def keptD (r : Rg) : Value := if isD r.pid = true then r.data else .slice none 0 0
theorem kept_any (w : World) (r : Rg) (ok : r.Ok) (A : Option Addr) (n c : Nat) (hd : r.data = .slice A n c) :
    Calls Tryz.prog 63 #[.agg (pcells r)] w fun e w' => e = .returned (.agg (pcells (keptR r (keptD r)))) ∧ Below w.heap.size w w' := by
  refine kept_core w r ok A n c hd (isD r.pid) (keptD r) ?_ rfl
  unfold keptD
  cases h : isD r.pid
  · exact .inr ⟨rfl, rfl⟩
  · exact .inl ⟨rfl, hd⟩

end Go.Proofs.YtgihpgdjkanodaaGreatDoor
