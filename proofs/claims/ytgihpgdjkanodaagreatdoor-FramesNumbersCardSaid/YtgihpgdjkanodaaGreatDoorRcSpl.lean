/-
  Helper text: the reference's Check, packets of a kind, way by way; no statement is proved here.
-/
import Derived.Test.YtgihpgdjkanodaaGreatDoorReF
namespace Go.Proofs.YtgihpgdjkanodaaGreatDoor
open Go Go.RowKit

set_option maxHeartbeats 400000 in
set_option maxRecDepth 100000 in
theorem chk_spl_addr (w : World) (p1 p2 p3 p4 p5 p8 n : Nat) (p6 p7 : Bool) (A : Option Addr) (c : Nat) (e_addr : p1 ≠ 0) : Calls Tryz.prog 42 #[.agg #[.int .u8 8, .int .u8 (p1 : Int), .int .u8 (p2 : Int), .int .u16 (p3 : Int), .int .u8 (p4 : Int), .int .u8 (p5 : Int), .bool p6, .bool p7, .int .u8 (p8 : Int), .slice A n c]] w (ResI w 1) := by
  have K0 := Lib.hid fun W => known_ref W 8
  have K1 := Lib.hid fun W => tok_ref W 8
  have K2 := Lib.hid fun W => hasD_ref W 8
  rw [show ((8 : Nat) == 1 || (8 : Nat) == 2 || (8 : Nat) == 3 || (8 : Nat) == 5 || (8 : Nat) == 6 || (8 : Nat) == 8 || (8 : Nat) == 9 || (8 : Nat) == 10 || (8 : Nat) == 11 || (8 : Nat) == 13 || (8 : Nat) == 14) = true from rfl] at K0
  rw [show ((8 : Nat) == 1 || (8 : Nat) == 9 || (8 : Nat) == 13) = false from rfl] at K1
  rw [show ((8 : Nat) == 3 || (8 : Nat) == 11) = false from rfl] at K2
  have m_addr : ¬ (p1 : Int) = 0 := by omega
  have i_addr : ((p1 : Int) == 0) = false := beq_eq_false_iff_ne.2 m_addr
  have Hb := Lib.hid ((Below.refl w.heap.size w).alloc (Nat.le_refl _) (.cells #[.int .u8 8, .int .u8 (p1 : Int), .int .u8 (p2 : Int), .int .u16 (p3 : Int), .int .u8 (p4 : Int), .int .u8 (p5 : Int), .bool p6, .bool p7, .int .u8 (p8 : Int), .slice A n c] 82))
  clear e_addr
  go_enter Tryz.func42, Tryz.ntmps42
  go_wp2_with fail
  refine (K0.out _).mono ?_
  rintro e w1 ⟨rfl, e1⟩
  rw [e1]
  clear e1
  go_wp2_with fail
  refine (K1.out _).mono ?_
  rintro e w1 ⟨rfl, e1⟩
  rw [e1]
  clear e1
  go_wp2
  go_ret
  exact ⟨rfl, by first | exact Hb.out | exact Hb.out.alloc Hb.out.size _⟩
set_option maxHeartbeats 400000 in
set_option maxRecDepth 100000 in
theorem chk_spl_endp (w : World) (p2 p3 p4 p5 p8 n : Nat) (p6 p7 : Bool) (A : Option Addr) (c : Nat) (e_endp : p2 ≠ 0) : Calls Tryz.prog 42 #[.agg #[.int .u8 8, .int .u8 0, .int .u8 (p2 : Int), .int .u16 (p3 : Int), .int .u8 (p4 : Int), .int .u8 (p5 : Int), .bool p6, .bool p7, .int .u8 (p8 : Int), .slice A n c]] w (ResI w 1) := by
  have K0 := Lib.hid fun W => known_ref W 8
  have K1 := Lib.hid fun W => tok_ref W 8
  have K2 := Lib.hid fun W => hasD_ref W 8
  rw [show ((8 : Nat) == 1 || (8 : Nat) == 2 || (8 : Nat) == 3 || (8 : Nat) == 5 || (8 : Nat) == 6 || (8 : Nat) == 8 || (8 : Nat) == 9 || (8 : Nat) == 10 || (8 : Nat) == 11 || (8 : Nat) == 13 || (8 : Nat) == 14) = true from rfl] at K0
  rw [show ((8 : Nat) == 1 || (8 : Nat) == 9 || (8 : Nat) == 13) = false from rfl] at K1
  rw [show ((8 : Nat) == 3 || (8 : Nat) == 11) = false from rfl] at K2
  have m_endp : ¬ (p2 : Int) = 0 := by omega
  have i_endp : ((p2 : Int) == 0) = false := beq_eq_false_iff_ne.2 m_endp
  have Hb := Lib.hid ((Below.refl w.heap.size w).alloc (Nat.le_refl _) (.cells #[.int .u8 8, .int .u8 0, .int .u8 (p2 : Int), .int .u16 (p3 : Int), .int .u8 (p4 : Int), .int .u8 (p5 : Int), .bool p6, .bool p7, .int .u8 (p8 : Int), .slice A n c] 82))
  clear e_endp
  go_enter Tryz.func42, Tryz.ntmps42
  go_wp2_with fail
  refine (K0.out _).mono ?_
  rintro e w1 ⟨rfl, e1⟩
  rw [e1]
  clear e1
  go_wp2_with fail
  refine (K1.out _).mono ?_
  rintro e w1 ⟨rfl, e1⟩
  rw [e1]
  clear e1
  go_wp2
  go_ret
  exact ⟨rfl, by first | exact Hb.out | exact Hb.out.alloc Hb.out.size _⟩
set_option maxHeartbeats 400000 in
set_option maxRecDepth 100000 in
theorem chk_spl_frame (w : World) (p3 p4 p5 p8 n : Nat) (p6 p7 : Bool) (A : Option Addr) (c : Nat) (e_frame : p3 ≠ 0) : Calls Tryz.prog 42 #[.agg #[.int .u8 8, .int .u8 0, .int .u8 0, .int .u16 (p3 : Int), .int .u8 (p4 : Int), .int .u8 (p5 : Int), .bool p6, .bool p7, .int .u8 (p8 : Int), .slice A n c]] w (ResI w 1) := by
  have K0 := Lib.hid fun W => known_ref W 8
  have K1 := Lib.hid fun W => tok_ref W 8
  have K2 := Lib.hid fun W => hasD_ref W 8
  rw [show ((8 : Nat) == 1 || (8 : Nat) == 2 || (8 : Nat) == 3 || (8 : Nat) == 5 || (8 : Nat) == 6 || (8 : Nat) == 8 || (8 : Nat) == 9 || (8 : Nat) == 10 || (8 : Nat) == 11 || (8 : Nat) == 13 || (8 : Nat) == 14) = true from rfl] at K0
  rw [show ((8 : Nat) == 1 || (8 : Nat) == 9 || (8 : Nat) == 13) = false from rfl] at K1
  rw [show ((8 : Nat) == 3 || (8 : Nat) == 11) = false from rfl] at K2
  have m_frame : ¬ (p3 : Int) = 0 := by omega
  have i_frame : ((p3 : Int) == 0) = false := beq_eq_false_iff_ne.2 m_frame
  have Hb := Lib.hid ((Below.refl w.heap.size w).alloc (Nat.le_refl _) (.cells #[.int .u8 8, .int .u8 0, .int .u8 0, .int .u16 (p3 : Int), .int .u8 (p4 : Int), .int .u8 (p5 : Int), .bool p6, .bool p7, .int .u8 (p8 : Int), .slice A n c] 82))
  clear e_frame
  go_enter Tryz.func42, Tryz.ntmps42
  go_wp2_with fail
  refine (K0.out _).mono ?_
  rintro e w1 ⟨rfl, e1⟩
  rw [e1]
  clear e1
  go_wp2_with fail
  refine (K1.out _).mono ?_
  rintro e w1 ⟨rfl, e1⟩
  rw [e1]
  clear e1
  go_wp2
  go_ret
  exact ⟨rfl, by first | exact Hb.out | exact Hb.out.alloc Hb.out.size _⟩
set_option maxHeartbeats 400000 in
set_option maxRecDepth 100000 in
theorem chk_spl_hub (w : World) (p4 p5 p8 n : Nat) (p6 p7 : Bool) (A : Option Addr) (c : Nat) (e_hub : 127 < p4) : Calls Tryz.prog 42 #[.agg #[.int .u8 8, .int .u8 0, .int .u8 0, .int .u16 0, .int .u8 (p4 : Int), .int .u8 (p5 : Int), .bool p6, .bool p7, .int .u8 (p8 : Int), .slice A n c]] w (ResI w 1) := by
  have K0 := Lib.hid fun W => known_ref W 8
  have K1 := Lib.hid fun W => tok_ref W 8
  have K2 := Lib.hid fun W => hasD_ref W 8
  rw [show ((8 : Nat) == 1 || (8 : Nat) == 2 || (8 : Nat) == 3 || (8 : Nat) == 5 || (8 : Nat) == 6 || (8 : Nat) == 8 || (8 : Nat) == 9 || (8 : Nat) == 10 || (8 : Nat) == 11 || (8 : Nat) == 13 || (8 : Nat) == 14) = true from rfl] at K0
  rw [show ((8 : Nat) == 1 || (8 : Nat) == 9 || (8 : Nat) == 13) = false from rfl] at K1
  rw [show ((8 : Nat) == 3 || (8 : Nat) == 11) = false from rfl] at K2
  have i_hub : (127 : Int) < (p4 : Int) := by omega
  have Hb := Lib.hid ((Below.refl w.heap.size w).alloc (Nat.le_refl _) (.cells #[.int .u8 8, .int .u8 0, .int .u8 0, .int .u16 0, .int .u8 (p4 : Int), .int .u8 (p5 : Int), .bool p6, .bool p7, .int .u8 (p8 : Int), .slice A n c] 82))
  clear e_hub
  go_enter Tryz.func42, Tryz.ntmps42
  go_wp2_with fail
  refine (K0.out _).mono ?_
  rintro e w1 ⟨rfl, e1⟩
  rw [e1]
  clear e1
  go_wp2_with fail
  refine (K1.out _).mono ?_
  rintro e w1 ⟨rfl, e1⟩
  rw [e1]
  clear e1
  go_wp2
  go_ret
  exact ⟨rfl, by first | exact Hb.out | exact Hb.out.alloc Hb.out.size _⟩
set_option maxHeartbeats 400000 in
set_option maxRecDepth 100000 in
theorem chk_spl_port (w : World) (p4 p5 p8 n : Nat) (p6 p7 : Bool) (A : Option Addr) (c : Nat) (e_hub : p4 ≤ 127) (e_port : 127 < p5) : Calls Tryz.prog 42 #[.agg #[.int .u8 8, .int .u8 0, .int .u8 0, .int .u16 0, .int .u8 (p4 : Int), .int .u8 (p5 : Int), .bool p6, .bool p7, .int .u8 (p8 : Int), .slice A n c]] w (ResI w 1) := by
  have K0 := Lib.hid fun W => known_ref W 8
  have K1 := Lib.hid fun W => tok_ref W 8
  have K2 := Lib.hid fun W => hasD_ref W 8
  rw [show ((8 : Nat) == 1 || (8 : Nat) == 2 || (8 : Nat) == 3 || (8 : Nat) == 5 || (8 : Nat) == 6 || (8 : Nat) == 8 || (8 : Nat) == 9 || (8 : Nat) == 10 || (8 : Nat) == 11 || (8 : Nat) == 13 || (8 : Nat) == 14) = true from rfl] at K0
  rw [show ((8 : Nat) == 1 || (8 : Nat) == 9 || (8 : Nat) == 13) = false from rfl] at K1
  rw [show ((8 : Nat) == 3 || (8 : Nat) == 11) = false from rfl] at K2
  have i_hub : ¬ (127 : Int) < (p4 : Int) := by omega
  have i_port : (127 : Int) < (p5 : Int) := by omega
  have Hb := Lib.hid ((Below.refl w.heap.size w).alloc (Nat.le_refl _) (.cells #[.int .u8 8, .int .u8 0, .int .u8 0, .int .u16 0, .int .u8 (p4 : Int), .int .u8 (p5 : Int), .bool p6, .bool p7, .int .u8 (p8 : Int), .slice A n c] 82))
  clear e_hub e_port
  go_enter Tryz.func42, Tryz.ntmps42
  go_wp2_with fail
  refine (K0.out _).mono ?_
  rintro e w1 ⟨rfl, e1⟩
  rw [e1]
  clear e1
  go_wp2_with fail
  refine (K1.out _).mono ?_
  rintro e w1 ⟨rfl, e1⟩
  rw [e1]
  clear e1
  go_wp2
  go_ret
  exact ⟨rfl, by first | exact Hb.out | exact Hb.out.alloc Hb.out.size _⟩
set_option maxHeartbeats 400000 in
set_option maxRecDepth 100000 in
theorem chk_spl_kind (w : World) (p4 p5 p8 n : Nat) (p6 p7 : Bool) (A : Option Addr) (c : Nat) (e_hub : p4 ≤ 127) (e_port : p5 ≤ 127) (e_kind : 3 < p8) : Calls Tryz.prog 42 #[.agg #[.int .u8 8, .int .u8 0, .int .u8 0, .int .u16 0, .int .u8 (p4 : Int), .int .u8 (p5 : Int), .bool p6, .bool p7, .int .u8 (p8 : Int), .slice A n c]] w (ResI w 1) := by
  have K0 := Lib.hid fun W => known_ref W 8
  have K1 := Lib.hid fun W => tok_ref W 8
  have K2 := Lib.hid fun W => hasD_ref W 8
  rw [show ((8 : Nat) == 1 || (8 : Nat) == 2 || (8 : Nat) == 3 || (8 : Nat) == 5 || (8 : Nat) == 6 || (8 : Nat) == 8 || (8 : Nat) == 9 || (8 : Nat) == 10 || (8 : Nat) == 11 || (8 : Nat) == 13 || (8 : Nat) == 14) = true from rfl] at K0
  rw [show ((8 : Nat) == 1 || (8 : Nat) == 9 || (8 : Nat) == 13) = false from rfl] at K1
  rw [show ((8 : Nat) == 3 || (8 : Nat) == 11) = false from rfl] at K2
  have i_hub : ¬ (127 : Int) < (p4 : Int) := by omega
  have i_port : ¬ (127 : Int) < (p5 : Int) := by omega
  have i_kind : (3 : Int) < (p8 : Int) := by omega
  have Hb := Lib.hid ((Below.refl w.heap.size w).alloc (Nat.le_refl _) (.cells #[.int .u8 8, .int .u8 0, .int .u8 0, .int .u16 0, .int .u8 (p4 : Int), .int .u8 (p5 : Int), .bool p6, .bool p7, .int .u8 (p8 : Int), .slice A n c] 82))
  clear e_hub e_port e_kind
  go_enter Tryz.func42, Tryz.ntmps42
  go_wp2_with fail
  refine (K0.out _).mono ?_
  rintro e w1 ⟨rfl, e1⟩
  rw [e1]
  clear e1
  go_wp2_with fail
  refine (K1.out _).mono ?_
  rintro e w1 ⟨rfl, e1⟩
  rw [e1]
  clear e1
  go_wp2
  go_ret
  exact ⟨rfl, by first | exact Hb.out | exact Hb.out.alloc Hb.out.size _⟩
set_option maxHeartbeats 400000 in
set_option maxRecDepth 100000 in
theorem chk_spl_len (w : World) (p4 p5 p8 n : Nat) (p6 p7 : Bool) (A : Option Addr) (c : Nat) (e_hub : p4 ≤ 127) (e_port : p5 ≤ 127) (e_kind : p8 ≤ 3) (e_len : n ≠ 0) : Calls Tryz.prog 42 #[.agg #[.int .u8 8, .int .u8 0, .int .u8 0, .int .u16 0, .int .u8 (p4 : Int), .int .u8 (p5 : Int), .bool p6, .bool p7, .int .u8 (p8 : Int), .slice A n c]] w (ResI w 1) := by
  have K0 := Lib.hid fun W => known_ref W 8
  have K1 := Lib.hid fun W => tok_ref W 8
  have K2 := Lib.hid fun W => hasD_ref W 8
  rw [show ((8 : Nat) == 1 || (8 : Nat) == 2 || (8 : Nat) == 3 || (8 : Nat) == 5 || (8 : Nat) == 6 || (8 : Nat) == 8 || (8 : Nat) == 9 || (8 : Nat) == 10 || (8 : Nat) == 11 || (8 : Nat) == 13 || (8 : Nat) == 14) = true from rfl] at K0
  rw [show ((8 : Nat) == 1 || (8 : Nat) == 9 || (8 : Nat) == 13) = false from rfl] at K1
  rw [show ((8 : Nat) == 3 || (8 : Nat) == 11) = false from rfl] at K2
  have i_hub : ¬ (127 : Int) < (p4 : Int) := by omega
  have i_port : ¬ (127 : Int) < (p5 : Int) := by omega
  have i_kind : ¬ (3 : Int) < (p8 : Int) := by omega
  have m_len : ¬ (n : Int) = 0 := by omega
  have i_len : ((n : Int) == 0) = false := beq_eq_false_iff_ne.2 m_len
  have Hb := Lib.hid ((Below.refl w.heap.size w).alloc (Nat.le_refl _) (.cells #[.int .u8 8, .int .u8 0, .int .u8 0, .int .u16 0, .int .u8 (p4 : Int), .int .u8 (p5 : Int), .bool p6, .bool p7, .int .u8 (p8 : Int), .slice A n c] 82))
  clear e_hub e_port e_kind e_len
  go_enter Tryz.func42, Tryz.ntmps42
  go_wp2_with fail
  refine (K0.out _).mono ?_
  rintro e w1 ⟨rfl, e1⟩
  rw [e1]
  clear e1
  go_wp2_with fail
  refine (K1.out _).mono ?_
  rintro e w1 ⟨rfl, e1⟩
  rw [e1]
  clear e1
  go_wp2_with fail
  refine (K2.out _).mono ?_
  rintro e w1 ⟨rfl, e1⟩
  rw [e1]
  clear e1
  go_wp2
  go_ret
  exact ⟨rfl, by first | exact Hb.out | exact Hb.out.alloc Hb.out.size _⟩
set_option maxHeartbeats 400000 in
set_option maxRecDepth 100000 in
theorem chk_spl_ok (w : World) (p4 p5 p8 : Nat) (p6 p7 : Bool) (A : Option Addr) (c : Nat) (e_hub : p4 ≤ 127) (e_port : p5 ≤ 127) (e_kind : p8 ≤ 3) : Calls Tryz.prog 42 #[.agg #[.int .u8 8, .int .u8 0, .int .u8 0, .int .u16 0, .int .u8 (p4 : Int), .int .u8 (p5 : Int), .bool p6, .bool p7, .int .u8 (p8 : Int), .slice A 0 c]] w (ResI w 0) := by
  have K0 := Lib.hid fun W => known_ref W 8
  have K1 := Lib.hid fun W => tok_ref W 8
  have K2 := Lib.hid fun W => hasD_ref W 8
  rw [show ((8 : Nat) == 1 || (8 : Nat) == 2 || (8 : Nat) == 3 || (8 : Nat) == 5 || (8 : Nat) == 6 || (8 : Nat) == 8 || (8 : Nat) == 9 || (8 : Nat) == 10 || (8 : Nat) == 11 || (8 : Nat) == 13 || (8 : Nat) == 14) = true from rfl] at K0
  rw [show ((8 : Nat) == 1 || (8 : Nat) == 9 || (8 : Nat) == 13) = false from rfl] at K1
  rw [show ((8 : Nat) == 3 || (8 : Nat) == 11) = false from rfl] at K2
  have i_hub : ¬ (127 : Int) < (p4 : Int) := by omega
  have i_port : ¬ (127 : Int) < (p5 : Int) := by omega
  have i_kind : ¬ (3 : Int) < (p8 : Int) := by omega
  have Hb := Lib.hid ((Below.refl w.heap.size w).alloc (Nat.le_refl _) (.cells #[.int .u8 8, .int .u8 0, .int .u8 0, .int .u16 0, .int .u8 (p4 : Int), .int .u8 (p5 : Int), .bool p6, .bool p7, .int .u8 (p8 : Int), .slice A 0 c] 82))
  clear e_hub e_port e_kind
  go_enter Tryz.func42, Tryz.ntmps42
  go_wp2_with fail
  refine (K0.out _).mono ?_
  rintro e w1 ⟨rfl, e1⟩
  rw [e1]
  clear e1
  go_wp2_with fail
  refine (K1.out _).mono ?_
  rintro e w1 ⟨rfl, e1⟩
  rw [e1]
  clear e1
  go_wp2_with fail
  refine (K2.out _).mono ?_
  rintro e w1 ⟨rfl, e1⟩
  rw [e1]
  clear e1
  go_wp2
  go_ret
  exact ⟨rfl, by first | exact Hb.out | exact Hb.out.alloc Hb.out.size _⟩

end Go.Proofs.YtgihpgdjkanodaaGreatDoor
