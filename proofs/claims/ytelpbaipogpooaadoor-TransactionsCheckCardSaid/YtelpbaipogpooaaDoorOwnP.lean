/-
  Helper text: packets whose data is in memory of its own; no statement is proved here.
-/
import Derived.Test.YtelpbaipogpooaaDoorBox
namespace Go.Proofs.YtelpbaipogpooaaDoor
open Go Go.RowKit

theorem Tryd.info5' : (Tryd.prog.info? 5).map (fun i => (i.zero, i.size, i.bytes)) = some (some (.int .u8 0), 1, 1) := by kernel_rfl

/-- Bytes in memory that is new since w. -/
def ResN (w : World) (xs : List UInt8) (e : Ending) (w' : World) : Prop :=
  ∃ A c, e = .returned (.slice A xs.length c) ∧ RdS (fun k => w.heap.size ≤ k ∧ k < w'.heap.size) w' A c xs ∧ Below w.heap.size w w'

set_option maxHeartbeats 400000 in
set_option maxRecDepth 100000 in
theorem bclone_any (w : World) (A : Option Addr) (c : Nat) (xs : List UInt8) (hx : Rd w w.heap.size A c xs) (hl : xs.length ≤ 1000000) :
    Calls Tryd.prog 50 #[.slice A xs.length c] w (ResN w xs) := by
  have qT : ∀ (w : World) (a : Option Addr) (n c n' c' : Nat), (binOp .eql 22 (.slice a n c) (.slice none n' c')).run Tryd.prog w = .ok (.bool a.isNone) w := fun w a n c n' c' => Lib.run_eql_slice_nil w _ _ a n c n' c' Tryd.underlying22
  rcases A with _ | ad
  · have h0 : xs = [] := by
      rcases Nat.eq_zero_or_pos xs.length with h0 | h0
      · exact List.eq_nil_of_length_eq_zero h0
      · obtain ⟨b, off, e, _⟩ := hx.cells h0
        cases e
    subst h0
    rw [List.length_nil]
    go_enter Tryd.func50, Tryd.ntmps50
    go_wp2
    go_ret
    exact ⟨none, 0, rfl, RdS.nil _, Below.refl _ _⟩
  · have hown := Lib.hid (own_built w 5 [] (by simp))
    have hx1 := Lib.hid (hx.alloc (Nat.le_refl _) (.cells (List.map bv []).toArray 5))
    have hl' := Lib.hid hl
    clear hx hl
    go_enter Tryd.func50, Tryd.ntmps50
    go_wp2_with (at_builtin; refine wpl_appendN Tryd.underlying22 Tryd.info5' rfl (.tmp 5) (.tmp 6) rfl w.heap.size _ [] rfl hown.out _ c (some ad) xs hx1.out rfl (by have := hl'.out; simp; omega) (by simp) ?_; intro v' w' ho hbb)
    go_ret
    obtain ⟨A', c', rfl, hr⟩ := RdS.of_own (xs := [] ++ xs) ho
    simp only [List.nil_append] at hr ⊢
    exact ⟨A', c', rfl, hr, ((Below.refl _ w).alloc (Nat.le_refl _) _).trans hbb⟩

theorem bclip_any (w : World) (A : Option Addr) (n c : Nat) (hle : n ≤ c) (hcap : c ≤ 9223372036854775807) : Calls Tryd.prog 49 #[.slice A n c] w fun e w' => e = .returned (.slice A n n) ∧ w = w' := by
  go_enter Tryd.func49, Tryd.ntmps49
  go_wp2
  go_ret
  exact ⟨rfl, rfl⟩

/-- The packet with its data in memory that is new since w. -/
def ResPk (w : World) (p : Pkt) (e : Ending) (w' : World) : Prop :=
  ∃ A c, e = .returned (pkV p A c) ∧ RdS (fun k => w.heap.size ≤ k ∧ k < w'.heap.size) w' A c p.data ∧ Below w.heap.size w w'

/-- The block of a packet that lies alone. -/
abbrev pkB (p : Pkt) (A : Option Addr) (c : Nat) : Obj := .cells #[.int .u8 (p.pid : Int), .int .u8 (p.addr : Int), .int .u8 (p.endp : Int), .int .u16 (p.frame : Int), .int .u8 (p.hub : Int), .int .u8 (p.port : Int), .bool p.comp, .bool p.low, .int .u8 (p.kind : Int), .slice A p.data.length c] 40
/-- .. of a packet of zeros. -/
abbrev pkZ : Obj := .cells #[.int .u8 0, .int .u8 0, .int .u8 0, .int .u16 0, .int .u8 0, .int .u8 0, .bool false, .bool false, .int .u8 0, .slice none 0 0] 40
theorem pk_cells {w : World} {k : Nat} {p : Pkt} {A : Option Addr} {c : Nat} (h : w.heap[k]? = some (pkB p A c)) :
    w.cell? ⟨k, 0, none⟩ = some (.int .u8 (p.pid : Int)) ∧ w.cell? ⟨k, 1, none⟩ = some (.int .u8 (p.addr : Int)) ∧ w.cell? ⟨k, 2, none⟩ = some (.int .u8 (p.endp : Int)) ∧ w.cell? ⟨k, 3, none⟩ = some (.int .u16 (p.frame : Int)) ∧
    w.cell? ⟨k, 4, none⟩ = some (.int .u8 (p.hub : Int)) ∧ w.cell? ⟨k, 5, none⟩ = some (.int .u8 (p.port : Int)) ∧ w.cell? ⟨k, 6, none⟩ = some (.bool p.comp) ∧ w.cell? ⟨k, 7, none⟩ = some (.bool p.low) ∧ w.cell? ⟨k, 8, none⟩ = some (.int .u8 (p.kind : Int)) ∧
    w.cell? ⟨k, 9, none⟩ = some (.slice A p.data.length c) :=
  ⟨cell_at h 0, cell_at h 1, cell_at h 2, cell_at h 3, cell_at h 4, cell_at h 5, cell_at h 6, cell_at h 7, cell_at h 8, cell_at h 9⟩
theorem pk_free {w : World} {k t : Nat} {cs : Array Value} (h : w.heap[k]? = some (.cells cs t (0, 0))) (i : Nat) : w.frozen? ⟨k, i, none⟩ = false := by simp [World.frozen?, h]

set_option maxHeartbeats 800000 in
set_option maxRecDepth 100000 in
theorem own_any (w : World) (p : Pkt) (A : Option Addr) (c : Nat) (hx : Rd w w.heap.size A c p.data) (hl : p.data.length ≤ 1000000) :
    Calls Tryd.prog 33 #[pkV p A c] w (ResPk w p) := by
  obtain ⟨h0, h1, h2, h3⟩ := alloc2 w (pkB p A c) pkZ
  have hx2 := Lib.hid ((hx.below h3).more h3.size)
  have hl' := Lib.hid hl
  clear hx hl
  obtain ⟨p0, p1, p2, p3, p4, p5, p6, p7, p8, xs⟩ := p
  simp only [pkB, pkV, pkZ] at h0 h1 h2 h3 hx2 hl' ⊢
  have H0 := Lib.hid h0
  have H1 := Lib.hid h1
  have H2 := Lib.hid h2
  have H3 := Lib.hid h3
  clear h0 h1 h2 h3
  go_enter Tryd.func33, Tryd.ntmps33
  go_wp2_with fail
  refine (bclone_any _ A c xs (hx2.out) hl'.out).mono ?_
  rintro e w1 ⟨A1, c1, rfl, hr1, hb1⟩
  have k0 := (hb1.block _ (block_lt H0.out)).trans H0.out
  have k1 := (hb1.block _ (block_lt H1.out)).trans H1.out
  have hB := Lib.hid (H3.out.trans (hb1.mono H3.out.size))
  have hr := Lib.hid (hr1.mono (G := fun k => w.heap.size + 1 + 1 ≤ k ∧ k < w1.heap.size) fun k hk => ⟨by have := hk.1; rw [H2.out] at this; exact this, hk.2⟩)
  have hle := hr1.le
  have hcap := hr1.cap
  clear hr1 hb1 H0 H1 H2 H3 hx2
  have f9 := block_free k0 9
  have c9 := block_at k0 (i := 9) (v := .slice A xs.length c) rfl
  have k2 := Lib.hid (block_set k0 9 (.slice A1 xs.length xs.length))
  have k3 := Lib.hid ((Below.heap_setCell w1 ⟨w.heap.size, 9, none⟩ (.slice A1 xs.length xs.length) (w.heap.size + 1) (by simp)).trans k1)
  simp only [List.setIfInBounds_toArray, List.set_cons_zero, List.set_cons_succ] at k2
  clear k0 k1
  go_wp2_with fail
  refine (bclip_any _ A1 xs.length c1 hle hcap).mono ?_
  rintro e w1' ⟨rfl, rfl⟩
  have hr2 := Lib.hid (hr.out.clip)
  clear hle hcap hr
  go_wp2_with (first | (refine wpl_loadB flatPk rfl (.tmp 1) rfl _ rfl k2.out rfl ?_) | (refine wpl_storeB flatPk rfl (.tmp 2) (.tmp 8) rfl _ rfl _ rfl k3.out rfl rfl rfl ?_; intro w2 k4 hg2 hs2))
  refine bodyPost_ret (ret_cell flatPk rfl _ (w.heap.size + 1) rfl k4 rfl) rfl ?_
  have hs3 : w2.heap.size = w1.heap.size := by rw [hs2]; simp [World.setCell]
  have hsz := hB.out.size
  refine ⟨A1, xs.length, rfl, (hr2.out.keep fun k hk => ?_).mono fun k hk => ⟨by omega, by omega⟩, ?_⟩
  · rw [hg2.block k (by simp [World.setCell]; omega) (fun e => by injection e; omega), Below.heap_setCell _ _ _ _ (by show k ≠ w.heap.size; omega)]
  · exact below_grown (hB.out.setCell (p := ⟨w.heap.size, 9, none⟩) (Nat.le_refl _) _) hg2 (by simpa [World.setCell] using hsz) (by omega)

end Go.Proofs.YtelpbaipogpooaaDoor
