/-
  Helper text: packets as plain data, the fields of their numbers, and the closures that read and set them; no statement is proved here.
-/
import Derived.Test.YtgihpgdjkanodaaGreatDoorRegB
import Derived.Test.YtgihpgdjkanodaaGreatDoorProg
import Derived.Test.YtgihpgdjkanodaaGreatDoorChecked
import Derived.Outline
import Derived.RegionTactic
namespace Go.Proofs.YtgihpgdjkanodaaGreatDoor
open Go Go.RowKit

/-- A packet that is read, and the bit that is no field of it; its data as a value. -/
structure Rg where
  pid : Nat
  addr : Nat
  endp : Nat
  frame : Nat
  hub : Nat
  port : Nat
  comp : Bool
  low : Bool
  kind : Nat
  data : Value
  spare : Nat
/-- The cells of a packet. -/
abbrev pcells (r : Rg) : Array Value := #[.int .u8 (r.pid : Int), .int .u8 (r.addr : Int), .int .u8 (r.endp : Int), .int .u16 (r.frame : Int), .int .u8 (r.hub : Int), .int .u8 (r.port : Int), .bool r.comp, .bool r.low, .int .u8 (r.kind : Int), r.data]
/-- .. and of one that is read. -/
abbrev rcells (r : Rg) : Array Value := #[.int .u8 (r.pid : Int), .int .u8 (r.addr : Int), .int .u8 (r.endp : Int), .int .u16 (r.frame : Int), .int .u8 (r.hub : Int), .int .u8 (r.port : Int), .bool r.comp, .bool r.low, .int .u8 (r.kind : Int), r.data, .int .u32 (r.spare : Int)]

/-- A field of a number. -/
inductive Fd where
  | addr | endp | frame | hub | comp | port | low | spare | kind
namespace Fd
def bits : Fd → Nat
  | addr => 7 | endp => 4 | frame => 11 | hub => 7 | comp => 1 | port => 7 | low => 1 | spare => 1 | kind => 2
def getF : Fd → Nat
  | addr => 109 | endp => 111 | frame => 113 | hub => 115 | comp => 117
  | port => 119 | low => 121 | spare => 123 | kind => 125
def setF : Fd → Nat
  | addr => 110 | endp => 112 | frame => 114 | hub => 116 | comp => 118
  | port => 120 | low => 122 | spare => 124 | kind => 126
def get (r : Rg) : Fd → Nat
  | addr => r.addr | endp => r.endp | frame => r.frame | hub => r.hub | comp => r.comp.toNat | port => r.port | low => r.low.toNat | spare => r.spare | kind => r.kind
def set (r : Rg) (v : Nat) : Fd → Rg
  | addr => { r with addr := v % 256 } | endp => { r with endp := v % 256 } | frame => { r with frame := v % 65536 } | hub => { r with hub := v % 256 } | comp => { r with comp := v == 1 }
  | port => { r with port := v % 256 } | low => { r with low := v == 1 } | spare => { r with spare := v } | kind => { r with kind := v % 256 }
/-- A field as it lies. -/
abbrev cells (f : Fd) : List Value := [.int .i64 (f.bits : Int), .func (.func f.getF) #[] #[], .func (.func f.setF) #[] #[]]
end Fd

theorem bit_any (w : World) (b : Bool) : Calls Tryz.prog 94 #[.bool b] w fun e w' => e = .returned (.int .u32 (b.toNat : Int)) ∧ w' = w := by
  cases b
  · go_enter Tryz.func94, Tryz.ntmps94
    go_wp2
    go_ret
    exact ⟨rfl, rfl⟩
  · go_enter Tryz.func94, Tryz.ntmps94
    go_wp2
    go_ret
    exact ⟨rfl, rfl⟩

theorem cell_at {w : World} {B : Nat} {cs : Array Value} {t : TypeId} (h : w.heap[B]? = some (.cells cs t (0, 0))) (i : Nat) : w.cell? ⟨B, i, none⟩ = cs[i]? := by
  rw [cell_of_row w B i cs t (0, 0) h]

/-- What a getter does. -/
def Gets (w : World) (v : Nat) (e : Ending) (w' : World) : Prop := e = .returned (.int .u32 (v : Int)) ∧ w' = w

/-- What was read is in its range. -/
structure Rg.Ok (r : Rg) : Prop where
  pid : r.pid < 256
  addr : r.addr < 256
  endp : r.endp < 256
  frame : r.frame < 65536
  hub : r.hub < 256
  port : r.port < 256
  kind : r.kind < 256
  spare : r.spare < 4294967296
theorem Fd.set_ok {r : Rg} (h : r.Ok) (f : Fd) {v : Nat} (hv : v < 4294967296) : (f.set r v).Ok := by
  obtain ⟨h0, h1, h2, h3, h4, h5, h6, h7⟩ := h
  cases f <;> (constructor <;> first | assumption | exact Nat.mod_lt _ (by omega) | exact hv)
/-- A store into a block. -/
theorem store_at {w : World} {B : Nat} {cs : Array Value} {t : TypeId} (h : w.heap[B]? = some (.cells cs t (0, 0))) (i : Nat) (u : Value) :
    (w.setCell ⟨B, i, none⟩ u).heap[B]? = some (.cells (cs.setIfInBounds i u) t (0, 0)) := by
  simp [World.setCell, Array.getElem?_modify, h]
theorem grown_store (w : World) (B i : Nat) (u : Value) : w.grownBy (w.setCell ⟨B, i, none⟩ u) (some B) :=
  ⟨rfl, rfl, rfl, by simp, fun k _ hn => Below.heap_setCell _ _ _ _ (fun e => hn (by rw [e]))⟩
/-- What a setter does. -/
def Sets (w : World) (B : Nat) (r : Rg) (e : Ending) (w' : World) : Prop := e = .returned (.tuple #[]) ∧ w'.heap[B]? = some (.cells (rcells r) 164 (0, 0)) ∧ w.grownBy w' (some B)

section
variable (w : World) (B : Nat) (r : Rg) (h : w.heap[B]? = some (.cells (rcells r) 164 (0, 0)))
include h
set_option maxRecDepth 100000
theorem get_addr (hb : r.addr < 256) : Calls Tryz.prog 109 #[.pointer (some ⟨B, 0, none⟩)] w (Gets w r.addr) := by
  have c1 : w.cell? ⟨B, 1, none⟩ = some (.int .u8 (r.addr : Int)) := cell_at h 1
  generalize r.addr = x at c1 hb ⊢
  go_enter Tryz.func109, Tryz.ntmps109
  go_wp2
  go_ret
  exact ⟨rfl, rfl⟩
theorem set_addr (v : Nat) (hv : v < 4294967296) : Calls Tryz.prog 110 #[.pointer (some ⟨B, 0, none⟩), .int .u32 (v : Int)] w (Sets w B (Fd.addr.set r v)) := by
  have c1 : w.cell? ⟨B, 1, none⟩ = some (.int .u8 (r.addr : Int)) := cell_at h 1
  have f1 : w.frozen? ⟨B, 1, none⟩ = false := by simp [World.frozen?, h]
  have he := Lib.hid (show (v : Int) % 256 = ((v % 256 : Nat) : Int) by omega)
  have hs := Lib.hid (store_at h 1 (.int .u8 (((v % 256 : Nat) : Int))))
  have hg := Lib.hid (grown_store w B 1 (.int .u8 (((v % 256 : Nat) : Int))))
  go_enter Tryz.func110, Tryz.ntmps110
  go_wp2
  go_end0
  rw [he.out]
  exact ⟨rfl, hs.out, hg.out⟩
theorem get_endp (hb : r.endp < 256) : Calls Tryz.prog 111 #[.pointer (some ⟨B, 0, none⟩)] w (Gets w r.endp) := by
  have c1 : w.cell? ⟨B, 2, none⟩ = some (.int .u8 (r.endp : Int)) := cell_at h 2
  generalize r.endp = x at c1 hb ⊢
  go_enter Tryz.func111, Tryz.ntmps111
  go_wp2
  go_ret
  exact ⟨rfl, rfl⟩
theorem set_endp (v : Nat) (hv : v < 4294967296) : Calls Tryz.prog 112 #[.pointer (some ⟨B, 0, none⟩), .int .u32 (v : Int)] w (Sets w B (Fd.endp.set r v)) := by
  have c1 : w.cell? ⟨B, 2, none⟩ = some (.int .u8 (r.endp : Int)) := cell_at h 2
  have f1 : w.frozen? ⟨B, 2, none⟩ = false := by simp [World.frozen?, h]
  have he := Lib.hid (show (v : Int) % 256 = ((v % 256 : Nat) : Int) by omega)
  have hs := Lib.hid (store_at h 2 (.int .u8 (((v % 256 : Nat) : Int))))
  have hg := Lib.hid (grown_store w B 2 (.int .u8 (((v % 256 : Nat) : Int))))
  go_enter Tryz.func112, Tryz.ntmps112
  go_wp2
  go_end0
  rw [he.out]
  exact ⟨rfl, hs.out, hg.out⟩
theorem get_frame (hb : r.frame < 65536) : Calls Tryz.prog 113 #[.pointer (some ⟨B, 0, none⟩)] w (Gets w r.frame) := by
  have c1 : w.cell? ⟨B, 3, none⟩ = some (.int .u16 (r.frame : Int)) := cell_at h 3
  generalize r.frame = x at c1 hb ⊢
  go_enter Tryz.func113, Tryz.ntmps113
  go_wp2
  go_ret
  exact ⟨rfl, rfl⟩
theorem set_frame (v : Nat) (hv : v < 4294967296) : Calls Tryz.prog 114 #[.pointer (some ⟨B, 0, none⟩), .int .u32 (v : Int)] w (Sets w B (Fd.frame.set r v)) := by
  have c1 : w.cell? ⟨B, 3, none⟩ = some (.int .u16 (r.frame : Int)) := cell_at h 3
  have f1 : w.frozen? ⟨B, 3, none⟩ = false := by simp [World.frozen?, h]
  have he := Lib.hid (show (v : Int) % 65536 = ((v % 65536 : Nat) : Int) by omega)
  have hs := Lib.hid (store_at h 3 (.int .u16 (((v % 65536 : Nat) : Int))))
  have hg := Lib.hid (grown_store w B 3 (.int .u16 (((v % 65536 : Nat) : Int))))
  go_enter Tryz.func114, Tryz.ntmps114
  go_wp2
  go_end0
  rw [show IntKind.u16.wrap (v : Int) = ((v % 65536 : Nat) : Int) from by rw [IntKind.wrap_u16]; omega]
  exact ⟨rfl, hs.out, hg.out⟩
theorem get_hub (hb : r.hub < 256) : Calls Tryz.prog 115 #[.pointer (some ⟨B, 0, none⟩)] w (Gets w r.hub) := by
  have c1 : w.cell? ⟨B, 4, none⟩ = some (.int .u8 (r.hub : Int)) := cell_at h 4
  generalize r.hub = x at c1 hb ⊢
  go_enter Tryz.func115, Tryz.ntmps115
  go_wp2
  go_ret
  exact ⟨rfl, rfl⟩
theorem set_hub (v : Nat) (hv : v < 4294967296) : Calls Tryz.prog 116 #[.pointer (some ⟨B, 0, none⟩), .int .u32 (v : Int)] w (Sets w B (Fd.hub.set r v)) := by
  have c1 : w.cell? ⟨B, 4, none⟩ = some (.int .u8 (r.hub : Int)) := cell_at h 4
  have f1 : w.frozen? ⟨B, 4, none⟩ = false := by simp [World.frozen?, h]
  have he := Lib.hid (show (v : Int) % 256 = ((v % 256 : Nat) : Int) by omega)
  have hs := Lib.hid (store_at h 4 (.int .u8 (((v % 256 : Nat) : Int))))
  have hg := Lib.hid (grown_store w B 4 (.int .u8 (((v % 256 : Nat) : Int))))
  go_enter Tryz.func116, Tryz.ntmps116
  go_wp2
  go_end0
  rw [he.out]
  exact ⟨rfl, hs.out, hg.out⟩
theorem get_comp : Calls Tryz.prog 117 #[.pointer (some ⟨B, 0, none⟩)] w (Gets w r.comp.toNat) := by
  have c1 : w.cell? ⟨B, 6, none⟩ = some (.bool r.comp) := cell_at h 6
  generalize r.comp = x at c1 ⊢
  go_enter Tryz.func117, Tryz.ntmps117
  go_wp2_with fail
  refine (bit_any _ x).mono ?_
  rintro e w1 ⟨rfl, rfl⟩
  go_wp2
  go_ret
  exact ⟨rfl, rfl⟩
theorem set_comp (v : Nat) (hv : v < 4294967296) : Calls Tryz.prog 118 #[.pointer (some ⟨B, 0, none⟩), .int .u32 (v : Int)] w (Sets w B (Fd.comp.set r v)) := by
  have c1 : w.cell? ⟨B, 6, none⟩ = some (.bool r.comp) := cell_at h 6
  have f1 : w.frozen? ⟨B, 6, none⟩ = false := by simp [World.frozen?, h]
  have he := Lib.hid (show ((v : Int) == 1) = (v == 1) by rw [Bool.eq_iff_iff, beq_iff_eq, beq_iff_eq]; omega)
  have hs := Lib.hid (store_at h 6 (.bool (v == 1)))
  have hg := Lib.hid (grown_store w B 6 (.bool (v == 1)))
  go_enter Tryz.func118, Tryz.ntmps118
  go_wp2
  go_end0
  rw [he.out]
  exact ⟨rfl, hs.out, hg.out⟩
theorem get_port (hb : r.port < 256) : Calls Tryz.prog 119 #[.pointer (some ⟨B, 0, none⟩)] w (Gets w r.port) := by
  have c1 : w.cell? ⟨B, 5, none⟩ = some (.int .u8 (r.port : Int)) := cell_at h 5
  generalize r.port = x at c1 hb ⊢
  go_enter Tryz.func119, Tryz.ntmps119
  go_wp2
  go_ret
  exact ⟨rfl, rfl⟩
theorem set_port (v : Nat) (hv : v < 4294967296) : Calls Tryz.prog 120 #[.pointer (some ⟨B, 0, none⟩), .int .u32 (v : Int)] w (Sets w B (Fd.port.set r v)) := by
  have c1 : w.cell? ⟨B, 5, none⟩ = some (.int .u8 (r.port : Int)) := cell_at h 5
  have f1 : w.frozen? ⟨B, 5, none⟩ = false := by simp [World.frozen?, h]
  have he := Lib.hid (show (v : Int) % 256 = ((v % 256 : Nat) : Int) by omega)
  have hs := Lib.hid (store_at h 5 (.int .u8 (((v % 256 : Nat) : Int))))
  have hg := Lib.hid (grown_store w B 5 (.int .u8 (((v % 256 : Nat) : Int))))
  go_enter Tryz.func120, Tryz.ntmps120
  go_wp2
  go_end0
  rw [he.out]
  exact ⟨rfl, hs.out, hg.out⟩
theorem get_low : Calls Tryz.prog 121 #[.pointer (some ⟨B, 0, none⟩)] w (Gets w r.low.toNat) := by
  have c1 : w.cell? ⟨B, 7, none⟩ = some (.bool r.low) := cell_at h 7
  generalize r.low = x at c1 ⊢
  go_enter Tryz.func121, Tryz.ntmps121
  go_wp2_with fail
  refine (bit_any _ x).mono ?_
  rintro e w1 ⟨rfl, rfl⟩
  go_wp2
  go_ret
  exact ⟨rfl, rfl⟩
theorem set_low (v : Nat) (hv : v < 4294967296) : Calls Tryz.prog 122 #[.pointer (some ⟨B, 0, none⟩), .int .u32 (v : Int)] w (Sets w B (Fd.low.set r v)) := by
  have c1 : w.cell? ⟨B, 7, none⟩ = some (.bool r.low) := cell_at h 7
  have f1 : w.frozen? ⟨B, 7, none⟩ = false := by simp [World.frozen?, h]
  have he := Lib.hid (show ((v : Int) == 1) = (v == 1) by rw [Bool.eq_iff_iff, beq_iff_eq, beq_iff_eq]; omega)
  have hs := Lib.hid (store_at h 7 (.bool (v == 1)))
  have hg := Lib.hid (grown_store w B 7 (.bool (v == 1)))
  go_enter Tryz.func122, Tryz.ntmps122
  go_wp2
  go_end0
  rw [he.out]
  exact ⟨rfl, hs.out, hg.out⟩
theorem get_spare : Calls Tryz.prog 123 #[.pointer (some ⟨B, 0, none⟩)] w (Gets w r.spare) := by
  have c1 : w.cell? ⟨B, 10, none⟩ = some (.int .u32 (r.spare : Int)) := cell_at h 10
  generalize r.spare = x at c1 ⊢
  go_enter Tryz.func123, Tryz.ntmps123
  go_wp2
  go_ret
  exact ⟨rfl, rfl⟩
theorem set_spare (v : Nat) (hv : v < 4294967296) : Calls Tryz.prog 124 #[.pointer (some ⟨B, 0, none⟩), .int .u32 (v : Int)] w (Sets w B (Fd.spare.set r v)) := by
  have c1 : w.cell? ⟨B, 10, none⟩ = some (.int .u32 (r.spare : Int)) := cell_at h 10
  have f1 : w.frozen? ⟨B, 10, none⟩ = false := by simp [World.frozen?, h]
  have hs := Lib.hid (store_at h 10 (.int .u32 (v : Int)))
  have hg := Lib.hid (grown_store w B 10 (.int .u32 (v : Int)))
  go_enter Tryz.func124, Tryz.ntmps124
  go_wp2
  go_end0
  skip
  exact ⟨rfl, hs.out, hg.out⟩
theorem get_kind (hb : r.kind < 256) : Calls Tryz.prog 125 #[.pointer (some ⟨B, 0, none⟩)] w (Gets w r.kind) := by
  have c1 : w.cell? ⟨B, 8, none⟩ = some (.int .u8 (r.kind : Int)) := cell_at h 8
  generalize r.kind = x at c1 hb ⊢
  go_enter Tryz.func125, Tryz.ntmps125
  go_wp2
  go_ret
  exact ⟨rfl, rfl⟩
theorem set_kind (v : Nat) (hv : v < 4294967296) : Calls Tryz.prog 126 #[.pointer (some ⟨B, 0, none⟩), .int .u32 (v : Int)] w (Sets w B (Fd.kind.set r v)) := by
  have c1 : w.cell? ⟨B, 8, none⟩ = some (.int .u8 (r.kind : Int)) := cell_at h 8
  have f1 : w.frozen? ⟨B, 8, none⟩ = false := by simp [World.frozen?, h]
  have he := Lib.hid (show (v : Int) % 256 = ((v % 256 : Nat) : Int) by omega)
  have hs := Lib.hid (store_at h 8 (.int .u8 (((v % 256 : Nat) : Int))))
  have hg := Lib.hid (grown_store w B 8 (.int .u8 (((v % 256 : Nat) : Int))))
  go_enter Tryz.func126, Tryz.ntmps126
  go_wp2
  go_end0
  rw [he.out]
  exact ⟨rfl, hs.out, hg.out⟩
theorem get_any (hk : r.Ok) (f : Fd) : Calls Tryz.prog f.getF #[.pointer (some ⟨B, 0, none⟩)] w (Gets w (f.get r)) := by
  cases f
  · exact get_addr w B r h hk.addr
  · exact get_endp w B r h hk.endp
  · exact get_frame w B r h hk.frame
  · exact get_hub w B r h hk.hub
  · exact get_comp w B r h
  · exact get_port w B r h hk.port
  · exact get_low w B r h
  · exact get_spare w B r h
  · exact get_kind w B r h hk.kind
theorem set_any (v : Nat) (hv : v < 4294967296) (f : Fd) : Calls Tryz.prog f.setF #[.pointer (some ⟨B, 0, none⟩), .int .u32 (v : Int)] w (Sets w B (f.set r v)) := by
  cases f
  · exact set_addr w B r h v hv
  · exact set_endp w B r h v hv
  · exact set_frame w B r h v hv
  · exact set_hub w B r h v hv
  · exact set_comp w B r h v hv
  · exact set_port w B r h v hv
  · exact set_low w B r h v hv
  · exact set_spare w B r h v hv
  · exact set_kind w B r h v hv
end

end Go.Proofs.YtgihpgdjkanodaaGreatDoor
