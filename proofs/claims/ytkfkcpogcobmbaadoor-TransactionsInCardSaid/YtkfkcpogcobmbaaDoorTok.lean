/-
  Helper text: transactions as plain data; their tokens and handshakes; no statement is proved here.
-/
import Derived.Test.YtkfkcpogcobmbaaDoorSpk
import Derived.WalkMore
import Derived.ScopeJumps
namespace Go.Proofs.YtkfkcpogcobmbaaDoor
open Go Go.RowKit

/-- A transaction. -/
structure Tr where
  addr : Nat
  endp : Nat
  what : Nat
  tog : Bool
  iso : Bool
  max : Int
  data : List UInt8
structure Tr.Ok (t : Tr) : Prop where
  addr : t.addr < 256
  endp : t.endp < 256
  what : t.what < 256
  lo : -9223372036854775808 ≤ t.max
  hi : t.max ≤ 9223372036854775807
  len : t.data.length ≤ 1000000
abbrev trL (t : Tr) (A : Option Addr) (c : Nat) : Array Value := #[.int .u8 (t.addr : Int), .int .u8 (t.endp : Int), .int .u8 (t.what : Int), .bool t.tog, .bool t.iso, .int .i64 t.max, .slice A t.data.length c]
abbrev trV (t : Tr) (A : Option Addr) (c : Nat) : Value := .agg (trL t A c)
abbrev trB (t : Tr) (A : Option Addr) (c : Nat) : Obj := .cells (trL t A c) 45
theorem tr_cells {w : World} {k : Nat} {t : Tr} {A : Option Addr} {c : Nat} (h : w.heap[k]? = some (trB t A c)) :
    w.cell? ⟨k, 0, none⟩ = some (.int .u8 (t.addr : Int)) ∧ w.cell? ⟨k, 1, none⟩ = some (.int .u8 (t.endp : Int)) ∧ w.cell? ⟨k, 2, none⟩ = some (.int .u8 (t.what : Int)) ∧ w.cell? ⟨k, 3, none⟩ = some (.bool t.tog) ∧ w.cell? ⟨k, 4, none⟩ = some (.bool t.iso) ∧
    w.cell? ⟨k, 5, none⟩ = some (.int .i64 t.max) ∧ w.cell? ⟨k, 6, none⟩ = some (.slice A t.data.length c) :=
  ⟨cell_at h 0, cell_at h 1, cell_at h 2, cell_at h 3, cell_at h 4, cell_at h 5, cell_at h 6⟩
def tokP (t : Tr) : Pkt := ⟨t.what, t.addr, t.endp, 0, 0, 0, false, false, 0, []⟩
def dpid (b : Bool) : Nat := bif b then 11 else 3
def datP (t : Tr) : Pkt := ⟨dpid t.tog, 0, 0, 0, 0, 0, false, false, 0, t.data⟩
def ackP : Pkt := ⟨2, 0, 0, 0, 0, 0, false, false, 0, []⟩
theorem tokP_ok {t : Tr} (h : t.Ok) : (tokP t).Ok := ⟨h.what, h.addr, h.endp, by show (0:Nat) < 65536; omega, by show (0:Nat) < 256; omega, by show (0:Nat) < 256; omega, by show (0:Nat) < 256; omega, by show (0:Nat) ≤ 1000000; omega⟩
theorem dpid_lt (b : Bool) : dpid b < 256 := by cases b <;> decide
theorem datP_ok {t : Tr} (h : t.Ok) : (datP t).Ok := ⟨dpid_lt _, by show (0:Nat) < 256; omega, by show (0:Nat) < 256; omega, by show (0:Nat) < 65536; omega, by show (0:Nat) < 256; omega, by show (0:Nat) < 256; omega, by show (0:Nat) < 256; omega, h.len⟩
theorem ackP_ok : ackP.Ok := by constructor <;> decide

/-- A value is returned, and what was there is as it was. -/
def ResV (w : World) (v : Value) (e : Ending) (w' : World) : Prop := e = .returned v ∧ Below w.heap.size w w'

set_option maxHeartbeats 400000 in
set_option maxRecDepth 100000 in
theorem token_any (w : World) (t : Tr) (A : Option Addr) (c : Nat) : Calls Tryd.prog 62 #[trV t A c] w (ResV w (pkV (tokP t) none 0)) := by
  obtain ⟨g0, g1, g2, g3⟩ := alloc2 w (trB t A c) pkZ
  obtain ⟨c0, c1, c2, c3, c4, c5, c6⟩ := tr_cells g0
  have B1 := Lib.hid g1
  have Hb := Lib.hid g3
  clear g0 g1 g2 g3 c3 c4 c5 c6
  go_enter Tryd.func62, Tryd.ntmps62
  go_wp2_with (refine wpl_storeB flatPk rfl (.tmp 2) (.tmp 9) rfl _ rfl _ rfl B1.out rfl rfl rfl ?_; intro y2 k2 hg2 hs2)
  refine bodyPost_ret (ret_cell flatPk rfl _ (w.heap.size + 1) rfl k2 rfl) rfl ?_
  exact ⟨rfl, below_grown Hb.out hg2 Hb.out.size (by omega)⟩

theorem dpid_any (w : World) (b : Bool) : Calls Tryd.prog 64 #[.bool b] w fun e w' => e = .returned (.int .u8 (dpid b : Int)) ∧ w = w' := by
  cases b
  · go_enter Tryd.func64, Tryd.ntmps64
    go_wp2
    go_ret
    exact ⟨rfl, rfl⟩
  · go_enter Tryd.func64, Tryd.ntmps64
    go_wp2
    go_ret
    exact ⟨rfl, rfl⟩

/-- The result of a handshake. -/
def hsR (what : Nat) (iso : Bool) (pid : Nat) : Nat :=
  if pid = 2 then (if what = 9 then 4 else 1) else if pid = 10 then (if what = 13 ∨ iso = true then 4 else 2) else if pid = 14 then (if what = 13 ∨ iso = true then 4 else 3) else 4

set_option maxHeartbeats 3200000 in
set_option maxRecDepth 100000 in
theorem hand_core (w : World) (addr endp what pid n c : Nat) (tog iso : Bool) (mx : Int) (A : Option Addr) (b2 b10 b14 w9 w13 : Bool) (h2 : ((pid : Int) == 2) = b2) (h10 : ((pid : Int) == 10) = b10) (h14 : ((pid : Int) == 14) = b14) (h9 : ((what : Int) == 9) = w9) (h13 : ((what : Int) == 13) = w13) (R : Nat)
    (hR : R = if b2 = true then (if w9 = true then 4 else 1) else if b10 = true then (if w13 = true ∨ iso = true then 4 else 2) else if b14 = true then (if w13 = true ∨ iso = true then 4 else 3) else 4) :
    Calls Tryd.prog 63 #[.agg #[.int .u8 (addr : Int), .int .u8 (endp : Int), .int .u8 (what : Int), .bool tog, .bool iso, .int .i64 mx, .slice A n c], .int .u8 (pid : Int)] w (ResV w (.int .u8 (R : Int))) := by
  have Hb := Lib.hid ((Below.refl w.heap.size w).alloc (Nat.le_refl _) (.cells #[.int .u8 (addr : Int), .int .u8 (endp : Int), .int .u8 (what : Int), .bool tog, .bool iso, .int .i64 mx, .slice A n c] 45))
  cases b2
  · cases b10
    · cases b14
      · have hR' : R = 4 := by simpa using hR
        subst hR'; clear hR
        go_enter Tryd.func63, Tryd.ntmps63
        go_wp2
        go_step3
        go_wp2
        go_step3
        go_wp2
        rw [Exit.noGoto_ret]
        go_ret
        exact ⟨rfl, Hb.out⟩
      · cases w13
        · cases iso
          · have hR' : R = 3 := by simpa using hR
            subst hR'; clear hR
            go_enter Tryd.func63, Tryd.ntmps63
            go_wp2
            go_step3
            go_wp2
            rw [Exit.noGoto_ret]
            go_ret
            exact ⟨rfl, Hb.out⟩
          · have hR' : R = 4 := by simpa using hR
            subst hR'; clear hR
            go_enter Tryd.func63, Tryd.ntmps63
            go_wp2
            refine wp_scope_jumps 0 (fun act W => act.tmps.size = 29 ∧ act.defers = [] ∧ Below w.heap.size w W) (fun _ _ => 0) (by rfl) ?_ ?_
            · go_wp2
              go_step3
              exact ⟨rfl, rfl, rfl, Hb.out⟩
            · rintro act W ⟨h1, h2, h3⟩
              have H3 := Lib.hid h3
              clear h3
              go_wp2
              show bodyPost _ _ _ Exit.ret _ _
              go_ret
              exact ⟨by simp [h1], H3.out⟩
        · have hR' : R = 4 := by simpa using hR
          subst hR'; clear hR
          go_enter Tryd.func63, Tryd.ntmps63
          go_wp2
          refine wp_scope_jumps 0 (fun act W => act.tmps.size = 29 ∧ act.defers = [] ∧ Below w.heap.size w W) (fun _ _ => 0) (by rfl) ?_ ?_
          · go_wp2
            go_step3
            exact ⟨rfl, rfl, rfl, Hb.out⟩
          · rintro act W ⟨h1, h2, h3⟩
            have H3 := Lib.hid h3
            clear h3
            go_wp2
            show bodyPost _ _ _ Exit.ret _ _
            go_ret
            exact ⟨by simp [h1], H3.out⟩
    · cases w13
      · cases iso
        · have hR' : R = 2 := by simpa using hR
          subst hR'; clear hR
          go_enter Tryd.func63, Tryd.ntmps63
          go_wp2
          go_step3
          go_wp2
          rw [Exit.noGoto_ret]
          go_ret
          exact ⟨rfl, Hb.out⟩
        · have hR' : R = 4 := by simpa using hR
          subst hR'; clear hR
          go_enter Tryd.func63, Tryd.ntmps63
          go_wp2
          refine wp_scope_jumps 0 (fun act W => act.tmps.size = 29 ∧ act.defers = [] ∧ Below w.heap.size w W) (fun _ _ => 0) (by rfl) ?_ ?_
          · go_wp2
            go_step3
            exact ⟨rfl, rfl, rfl, Hb.out⟩
          · rintro act W ⟨h1, h2, h3⟩
            have H3 := Lib.hid h3
            clear h3
            go_wp2
            show bodyPost _ _ _ Exit.ret _ _
            go_ret
            exact ⟨by simp [h1], H3.out⟩
      · have hR' : R = 4 := by simpa using hR
        subst hR'; clear hR
        go_enter Tryd.func63, Tryd.ntmps63
        go_wp2
        refine wp_scope_jumps 0 (fun act W => act.tmps.size = 29 ∧ act.defers = [] ∧ Below w.heap.size w W) (fun _ _ => 0) (by rfl) ?_ ?_
        · go_wp2
          go_step3
          exact ⟨rfl, rfl, rfl, Hb.out⟩
        · rintro act W ⟨h1, h2, h3⟩
          have H3 := Lib.hid h3
          clear h3
          go_wp2
          show bodyPost _ _ _ Exit.ret _ _
          go_ret
          exact ⟨by simp [h1], H3.out⟩
  · cases w9
    · have hR' : R = 1 := by simpa using hR
      subst hR'; clear hR
      go_enter Tryd.func63, Tryd.ntmps63
      go_wp2
      go_step3
      go_wp2
      rw [Exit.noGoto_ret]
      go_ret
      exact ⟨rfl, Hb.out⟩
    · have hR' : R = 4 := by simpa using hR
      subst hR'; clear hR
      go_enter Tryd.func63, Tryd.ntmps63
      go_wp2
      refine wp_scope_jumps 0 (fun act W => act.tmps.size = 29 ∧ act.defers = [] ∧ Below w.heap.size w W) (fun _ _ => 0) (by rfl) ?_ ?_
      · go_wp2
        go_step3
        exact ⟨rfl, rfl, rfl, Hb.out⟩
      · rintro act W ⟨h1, h2, h3⟩
        have H3 := Lib.hid h3
        clear h3
        go_wp2
        show bodyPost _ _ _ Exit.ret _ _
        go_ret
        exact ⟨by simp [h1], H3.out⟩
theorem hand_any (w : World) (t : Tr) (A : Option Addr) (c pid : Nat) : Calls Tryd.prog 63 #[trV t A c, .int .u8 (pid : Int)] w (ResV w (.int .u8 (hsR t.what t.iso pid : Int))) := by
  refine hand_core w t.addr t.endp t.what pid t.data.length c t.tog t.iso t.max A _ _ _ _ _ (castEq pid 2) (castEq pid 10) (castEq pid 14) (castEq t.what 9) (castEq t.what 13) _ ?_
  unfold hsR
  simp only [beq_iff_eq]

end Go.Proofs.YtkfkcpogcobmbaaDoor
