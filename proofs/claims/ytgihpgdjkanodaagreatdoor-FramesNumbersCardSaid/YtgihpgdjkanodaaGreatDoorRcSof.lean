/-
  Helper text: the reference's Check, packets of a kind, way by way; no statement is proved here.
-/
import Derived.Test.YtgihpgdjkanodaaGreatDoorReF
namespace Go.Proofs.YtgihpgdjkanodaaGreatDoor
open Go Go.RowKit

set_option maxHeartbeats 400000 in
set_option maxRecDepth 100000 in
theorem chk_sof_addr (w : World) (p1 p2 p3 p4 p5 p8 n : Nat) (p6 p7 : Bool) (A : Option Addr) (c : Nat) (e_addr : p1 ≠ 0) : Calls Tryz.prog 42 #[.agg #[.int .u8 5, .int .u8 (p1 : Int), .int .u8 (p2 : Int), .int .u16 (p3 : Int), .int .u8 (p4 : Int), .int .u8 (p5 : Int), .bool p6, .bool p7, .int .u8 (p8 : Int), .slice A n c]] w (ResI w 1) := by
  have K0 := Lib.hid fun W => known_ref W 5
  have K1 := Lib.hid fun W => tok_ref W 5
  have K2 := Lib.hid fun W => hasD_ref W 5
  rw [show ((5 : Nat) == 1 || (5 : Nat) == 2 || (5 : Nat) == 3 || (5 : Nat) == 5 || (5 : Nat) == 6 || (5 : Nat) == 8 || (5 : Nat) == 9 || (5 : Nat) == 10 || (5 : Nat) == 11 || (5 : Nat) == 13 || (5 : Nat) == 14) = true from rfl] at K0
  rw [show ((5 : Nat) == 1 || (5 : Nat) == 9 || (5 : Nat) == 13) = false from rfl] at K1
  rw [show ((5 : Nat) == 3 || (5 : Nat) == 11) = false from rfl] at K2
  have m_addr : ¬ (p1 : Int) = 0 := by omega
  have i_addr : ((p1 : Int) == 0) = false := beq_eq_false_iff_ne.2 m_addr
  have Hb := Lib.hid ((Below.refl w.heap.size w).alloc (Nat.le_refl _) (.cells #[.int .u8 5, .int .u8 (p1 : Int), .int .u8 (p2 : Int), .int .u16 (p3 : Int), .int .u8 (p4 : Int), .int .u8 (p5 : Int), .bool p6, .bool p7, .int .u8 (p8 : Int), .slice A n c] 82))
  clear e_addr
  go_enter Tryz.func42, Tryz.ntmps42
  go_wp2_with fail
  refine (K0.out _).mono ?_
  rintro e w1 ⟨rfl, e1⟩
  rw [e1]
  clear e1
  go_wp2_with fail
  refine (K1.out _).mono ?_
  rintro e w1 ⟨rfl, e1⟩
  rw [e1]
  clear e1
  go_wp2
  go_ret
  exact ⟨rfl, by first | exact Hb.out | exact Hb.out.alloc Hb.out.size _⟩
set_option maxHeartbeats 400000 in
set_option maxRecDepth 100000 in
theorem chk_sof_endp (w : World) (p2 p3 p4 p5 p8 n : Nat) (p6 p7 : Bool) (A : Option Addr) (c : Nat) (e_endp : p2 ≠ 0) : Calls Tryz.prog 42 #[.agg #[.int .u8 5, .int .u8 0, .int .u8 (p2 : Int), .int .u16 (p3 : Int), .int .u8 (p4 : Int), .int .u8 (p5 : Int), .bool p6, .bool p7, .int .u8 (p8 : Int), .slice A n c]] w (ResI w 1) := by
  have K0 := Lib.hid fun W => known_ref W 5
  have K1 := Lib.hid fun W => tok_ref W 5
  have K2 := Lib.hid fun W => hasD_ref W 5
  rw [show ((5 : Nat) == 1 || (5 : Nat) == 2 || (5 : Nat) == 3 || (5 : Nat) == 5 || (5 : Nat) == 6 || (5 : Nat) == 8 || (5 : Nat) == 9 || (5 : Nat) == 10 || (5 : Nat) == 11 || (5 : Nat) == 13 || (5 : Nat) == 14) = true from rfl] at K0
  rw [show ((5 : Nat) == 1 || (5 : Nat) == 9 || (5 : Nat) == 13) = false from rfl] at K1
  rw [show ((5 : Nat) == 3 || (5 : Nat) == 11) = false from rfl] at K2
  have m_endp : ¬ (p2 : Int) = 0 := by omega
  have i_endp : ((p2 : Int) == 0) = false := beq_eq_false_iff_ne.2 m_endp
  have Hb := Lib.hid ((Below.refl w.heap.size w).alloc (Nat.le_refl _) (.cells #[.int .u8 5, .int .u8 0, .int .u8 (p2 : Int), .int .u16 (p3 : Int), .int .u8 (p4 : Int), .int .u8 (p5 : Int), .bool p6, .bool p7, .int .u8 (p8 : Int), .slice A n c] 82))
  clear e_endp
  go_enter Tryz.func42, Tryz.ntmps42
  go_wp2_with fail
  refine (K0.out _).mono ?_
  rintro e w1 ⟨rfl, e1⟩
  rw [e1]
  clear e1
  go_wp2_with fail
  refine (K1.out _).mono ?_
  rintro e w1 ⟨rfl, e1⟩
  rw [e1]
  clear e1
  go_wp2
  go_ret
  exact ⟨rfl, by first | exact Hb.out | exact Hb.out.alloc Hb.out.size _⟩
set_option maxHeartbeats 400000 in
set_option maxRecDepth 100000 in
theorem chk_sof_frame (w : World) (p3 p4 p5 p8 n : Nat) (p6 p7 : Bool) (A : Option Addr) (c : Nat) (e_frame : 2047 < p3) : Calls Tryz.prog 42 #[.agg #[.int .u8 5, .int .u8 0, .int .u8 0, .int .u16 (p3 : Int), .int .u8 (p4 : Int), .int .u8 (p5 : Int), .bool p6, .bool p7, .int .u8 (p8 : Int), .slice A n c]] w (ResI w 1) := by
  have K0 := Lib.hid fun W => known_ref W 5
  have K1 := Lib.hid fun W => tok_ref W 5
  have K2 := Lib.hid fun W => hasD_ref W 5
  rw [show ((5 : Nat) == 1 || (5 : Nat) == 2 || (5 : Nat) == 3 || (5 : Nat) == 5 || (5 : Nat) == 6 || (5 : Nat) == 8 || (5 : Nat) == 9 || (5 : Nat) == 10 || (5 : Nat) == 11 || (5 : Nat) == 13 || (5 : Nat) == 14) = true from rfl] at K0
  rw [show ((5 : Nat) == 1 || (5 : Nat) == 9 || (5 : Nat) == 13) = false from rfl] at K1
  rw [show ((5 : Nat) == 3 || (5 : Nat) == 11) = false from rfl] at K2
  have i_frame : (2047 : Int) < (p3 : Int) := by omega
  have Hb := Lib.hid ((Below.refl w.heap.size w).alloc (Nat.le_refl _) (.cells #[.int .u8 5, .int .u8 0, .int .u8 0, .int .u16 (p3 : Int), .int .u8 (p4 : Int), .int .u8 (p5 : Int), .bool p6, .bool p7, .int .u8 (p8 : Int), .slice A n c] 82))
  clear e_frame
  go_enter Tryz.func42, Tryz.ntmps42
  go_wp2_with fail
  refine (K0.out _).mono ?_
  rintro e w1 ⟨rfl, e1⟩
  rw [e1]
  clear e1
  go_wp2_with fail
  refine (K1.out _).mono ?_
  rintro e w1 ⟨rfl, e1⟩
  rw [e1]
  clear e1
  go_wp2
  go_ret
  exact ⟨rfl, by first | exact Hb.out | exact Hb.out.alloc Hb.out.size _⟩
set_option maxHeartbeats 400000 in
set_option maxRecDepth 100000 in
theorem chk_sof_hub (w : World) (p3 p4 p5 p8 n : Nat) (p6 p7 : Bool) (A : Option Addr) (c : Nat) (e_frame : p3 ≤ 2047) (e_hub : p4 ≠ 0) : Calls Tryz.prog 42 #[.agg #[.int .u8 5, .int .u8 0, .int .u8 0, .int .u16 (p3 : Int), .int .u8 (p4 : Int), .int .u8 (p5 : Int), .bool p6, .bool p7, .int .u8 (p8 : Int), .slice A n c]] w (ResI w 1) := by
  have K0 := Lib.hid fun W => known_ref W 5
  have K1 := Lib.hid fun W => tok_ref W 5
  have K2 := Lib.hid fun W => hasD_ref W 5
  rw [show ((5 : Nat) == 1 || (5 : Nat) == 2 || (5 : Nat) == 3 || (5 : Nat) == 5 || (5 : Nat) == 6 || (5 : Nat) == 8 || (5 : Nat) == 9 || (5 : Nat) == 10 || (5 : Nat) == 11 || (5 : Nat) == 13 || (5 : Nat) == 14) = true from rfl] at K0
  rw [show ((5 : Nat) == 1 || (5 : Nat) == 9 || (5 : Nat) == 13) = false from rfl] at K1
  rw [show ((5 : Nat) == 3 || (5 : Nat) == 11) = false from rfl] at K2
  have i_frame : ¬ (2047 : Int) < (p3 : Int) := by omega
  have m_hub : ¬ (p4 : Int) = 0 := by omega
  have i_hub : ((p4 : Int) == 0) = false := beq_eq_false_iff_ne.2 m_hub
  have Hb := Lib.hid ((Below.refl w.heap.size w).alloc (Nat.le_refl _) (.cells #[.int .u8 5, .int .u8 0, .int .u8 0, .int .u16 (p3 : Int), .int .u8 (p4 : Int), .int .u8 (p5 : Int), .bool p6, .bool p7, .int .u8 (p8 : Int), .slice A n c] 82))
  clear e_frame e_hub
  go_enter Tryz.func42, Tryz.ntmps42
  go_wp2_with fail
  refine (K0.out _).mono ?_
  rintro e w1 ⟨rfl, e1⟩
  rw [e1]
  clear e1
  go_wp2_with fail
  refine (K1.out _).mono ?_
  rintro e w1 ⟨rfl, e1⟩
  rw [e1]
  clear e1
  go_wp2
  go_ret
  exact ⟨rfl, by first | exact Hb.out | exact Hb.out.alloc Hb.out.size _⟩
set_option maxHeartbeats 400000 in
set_option maxRecDepth 100000 in
theorem chk_sof_port (w : World) (p3 p5 p8 n : Nat) (p6 p7 : Bool) (A : Option Addr) (c : Nat) (e_frame : p3 ≤ 2047) (e_port : p5 ≠ 0) : Calls Tryz.prog 42 #[.agg #[.int .u8 5, .int .u8 0, .int .u8 0, .int .u16 (p3 : Int), .int .u8 0, .int .u8 (p5 : Int), .bool p6, .bool p7, .int .u8 (p8 : Int), .slice A n c]] w (ResI w 1) := by
  have K0 := Lib.hid fun W => known_ref W 5
  have K1 := Lib.hid fun W => tok_ref W 5
  have K2 := Lib.hid fun W => hasD_ref W 5
  rw [show ((5 : Nat) == 1 || (5 : Nat) == 2 || (5 : Nat) == 3 || (5 : Nat) == 5 || (5 : Nat) == 6 || (5 : Nat) == 8 || (5 : Nat) == 9 || (5 : Nat) == 10 || (5 : Nat) == 11 || (5 : Nat) == 13 || (5 : Nat) == 14) = true from rfl] at K0
  rw [show ((5 : Nat) == 1 || (5 : Nat) == 9 || (5 : Nat) == 13) = false from rfl] at K1
  rw [show ((5 : Nat) == 3 || (5 : Nat) == 11) = false from rfl] at K2
  have i_frame : ¬ (2047 : Int) < (p3 : Int) := by omega
  have m_port : ¬ (p5 : Int) = 0 := by omega
  have i_port : ((p5 : Int) == 0) = false := beq_eq_false_iff_ne.2 m_port
  have Hb := Lib.hid ((Below.refl w.heap.size w).alloc (Nat.le_refl _) (.cells #[.int .u8 5, .int .u8 0, .int .u8 0, .int .u16 (p3 : Int), .int .u8 0, .int .u8 (p5 : Int), .bool p6, .bool p7, .int .u8 (p8 : Int), .slice A n c] 82))
  clear e_frame e_port
  go_enter Tryz.func42, Tryz.ntmps42
  go_wp2_with fail
  refine (K0.out _).mono ?_
  rintro e w1 ⟨rfl, e1⟩
  rw [e1]
  clear e1
  go_wp2_with fail
  refine (K1.out _).mono ?_
  rintro e w1 ⟨rfl, e1⟩
  rw [e1]
  clear e1
  go_wp2
  go_ret
  exact ⟨rfl, by first | exact Hb.out | exact Hb.out.alloc Hb.out.size _⟩
set_option maxHeartbeats 400000 in
set_option maxRecDepth 100000 in
theorem chk_sof_comp (w : World) (p3 p8 n : Nat) (p7 : Bool) (A : Option Addr) (c : Nat) (e_frame : p3 ≤ 2047) : Calls Tryz.prog 42 #[.agg #[.int .u8 5, .int .u8 0, .int .u8 0, .int .u16 (p3 : Int), .int .u8 0, .int .u8 0, .bool true, .bool p7, .int .u8 (p8 : Int), .slice A n c]] w (ResI w 1) := by
  have K0 := Lib.hid fun W => known_ref W 5
  have K1 := Lib.hid fun W => tok_ref W 5
  have K2 := Lib.hid fun W => hasD_ref W 5
  rw [show ((5 : Nat) == 1 || (5 : Nat) == 2 || (5 : Nat) == 3 || (5 : Nat) == 5 || (5 : Nat) == 6 || (5 : Nat) == 8 || (5 : Nat) == 9 || (5 : Nat) == 10 || (5 : Nat) == 11 || (5 : Nat) == 13 || (5 : Nat) == 14) = true from rfl] at K0
  rw [show ((5 : Nat) == 1 || (5 : Nat) == 9 || (5 : Nat) == 13) = false from rfl] at K1
  rw [show ((5 : Nat) == 3 || (5 : Nat) == 11) = false from rfl] at K2
  have i_frame : ¬ (2047 : Int) < (p3 : Int) := by omega
  have Hb := Lib.hid ((Below.refl w.heap.size w).alloc (Nat.le_refl _) (.cells #[.int .u8 5, .int .u8 0, .int .u8 0, .int .u16 (p3 : Int), .int .u8 0, .int .u8 0, .bool true, .bool p7, .int .u8 (p8 : Int), .slice A n c] 82))
  clear e_frame
  go_enter Tryz.func42, Tryz.ntmps42
  go_wp2_with fail
  refine (K0.out _).mono ?_
  rintro e w1 ⟨rfl, e1⟩
  rw [e1]
  clear e1
  go_wp2_with fail
  refine (K1.out _).mono ?_
  rintro e w1 ⟨rfl, e1⟩
  rw [e1]
  clear e1
  go_wp2
  go_ret
  exact ⟨rfl, by first | exact Hb.out | exact Hb.out.alloc Hb.out.size _⟩
set_option maxHeartbeats 400000 in
set_option maxRecDepth 100000 in
theorem chk_sof_low (w : World) (p3 p8 n : Nat) (A : Option Addr) (c : Nat) (e_frame : p3 ≤ 2047) : Calls Tryz.prog 42 #[.agg #[.int .u8 5, .int .u8 0, .int .u8 0, .int .u16 (p3 : Int), .int .u8 0, .int .u8 0, .bool false, .bool true, .int .u8 (p8 : Int), .slice A n c]] w (ResI w 1) := by
  have K0 := Lib.hid fun W => known_ref W 5
  have K1 := Lib.hid fun W => tok_ref W 5
  have K2 := Lib.hid fun W => hasD_ref W 5
  rw [show ((5 : Nat) == 1 || (5 : Nat) == 2 || (5 : Nat) == 3 || (5 : Nat) == 5 || (5 : Nat) == 6 || (5 : Nat) == 8 || (5 : Nat) == 9 || (5 : Nat) == 10 || (5 : Nat) == 11 || (5 : Nat) == 13 || (5 : Nat) == 14) = true from rfl] at K0
  rw [show ((5 : Nat) == 1 || (5 : Nat) == 9 || (5 : Nat) == 13) = false from rfl] at K1
  rw [show ((5 : Nat) == 3 || (5 : Nat) == 11) = false from rfl] at K2
  have i_frame : ¬ (2047 : Int) < (p3 : Int) := by omega
  have Hb := Lib.hid ((Below.refl w.heap.size w).alloc (Nat.le_refl _) (.cells #[.int .u8 5, .int .u8 0, .int .u8 0, .int .u16 (p3 : Int), .int .u8 0, .int .u8 0, .bool false, .bool true, .int .u8 (p8 : Int), .slice A n c] 82))
  clear e_frame
  go_enter Tryz.func42, Tryz.ntmps42
  go_wp2_with fail
  refine (K0.out _).mono ?_
  rintro e w1 ⟨rfl, e1⟩
  rw [e1]
  clear e1
  go_wp2_with fail
  refine (K1.out _).mono ?_
  rintro e w1 ⟨rfl, e1⟩
  rw [e1]
  clear e1
  go_wp2
  go_ret
  exact ⟨rfl, by first | exact Hb.out | exact Hb.out.alloc Hb.out.size _⟩
set_option maxHeartbeats 400000 in
set_option maxRecDepth 100000 in
theorem chk_sof_kind (w : World) (p3 p8 n : Nat) (A : Option Addr) (c : Nat) (e_frame : p3 ≤ 2047) (e_kind : p8 ≠ 0) : Calls Tryz.prog 42 #[.agg #[.int .u8 5, .int .u8 0, .int .u8 0, .int .u16 (p3 : Int), .int .u8 0, .int .u8 0, .bool false, .bool false, .int .u8 (p8 : Int), .slice A n c]] w (ResI w 1) := by
  have K0 := Lib.hid fun W => known_ref W 5
  have K1 := Lib.hid fun W => tok_ref W 5
  have K2 := Lib.hid fun W => hasD_ref W 5
  rw [show ((5 : Nat) == 1 || (5 : Nat) == 2 || (5 : Nat) == 3 || (5 : Nat) == 5 || (5 : Nat) == 6 || (5 : Nat) == 8 || (5 : Nat) == 9 || (5 : Nat) == 10 || (5 : Nat) == 11 || (5 : Nat) == 13 || (5 : Nat) == 14) = true from rfl] at K0
  rw [show ((5 : Nat) == 1 || (5 : Nat) == 9 || (5 : Nat) == 13) = false from rfl] at K1
  rw [show ((5 : Nat) == 3 || (5 : Nat) == 11) = false from rfl] at K2
  have i_frame : ¬ (2047 : Int) < (p3 : Int) := by omega
  have m_kind : ¬ (p8 : Int) = 0 := by omega
  have i_kind : ((p8 : Int) == 0) = false := beq_eq_false_iff_ne.2 m_kind
  have Hb := Lib.hid ((Below.refl w.heap.size w).alloc (Nat.le_refl _) (.cells #[.int .u8 5, .int .u8 0, .int .u8 0, .int .u16 (p3 : Int), .int .u8 0, .int .u8 0, .bool false, .bool false, .int .u8 (p8 : Int), .slice A n c] 82))
  clear e_frame e_kind
  go_enter Tryz.func42, Tryz.ntmps42
  go_wp2_with fail
  refine (K0.out _).mono ?_
  rintro e w1 ⟨rfl, e1⟩
  rw [e1]
  clear e1
  go_wp2_with fail
  refine (K1.out _).mono ?_
  rintro e w1 ⟨rfl, e1⟩
  rw [e1]
  clear e1
  go_wp2
  go_ret
  exact ⟨rfl, by first | exact Hb.out | exact Hb.out.alloc Hb.out.size _⟩
set_option maxHeartbeats 400000 in
set_option maxRecDepth 100000 in
theorem chk_sof_len (w : World) (p3 n : Nat) (A : Option Addr) (c : Nat) (e_frame : p3 ≤ 2047) (e_len : n ≠ 0) : Calls Tryz.prog 42 #[.agg #[.int .u8 5, .int .u8 0, .int .u8 0, .int .u16 (p3 : Int), .int .u8 0, .int .u8 0, .bool false, .bool false, .int .u8 0, .slice A n c]] w (ResI w 1) := by
  have K0 := Lib.hid fun W => known_ref W 5
  have K1 := Lib.hid fun W => tok_ref W 5
  have K2 := Lib.hid fun W => hasD_ref W 5
  rw [show ((5 : Nat) == 1 || (5 : Nat) == 2 || (5 : Nat) == 3 || (5 : Nat) == 5 || (5 : Nat) == 6 || (5 : Nat) == 8 || (5 : Nat) == 9 || (5 : Nat) == 10 || (5 : Nat) == 11 || (5 : Nat) == 13 || (5 : Nat) == 14) = true from rfl] at K0
  rw [show ((5 : Nat) == 1 || (5 : Nat) == 9 || (5 : Nat) == 13) = false from rfl] at K1
  rw [show ((5 : Nat) == 3 || (5 : Nat) == 11) = false from rfl] at K2
  have i_frame : ¬ (2047 : Int) < (p3 : Int) := by omega
  have m_len : ¬ (n : Int) = 0 := by omega
  have i_len : ((n : Int) == 0) = false := beq_eq_false_iff_ne.2 m_len
  have Hb := Lib.hid ((Below.refl w.heap.size w).alloc (Nat.le_refl _) (.cells #[.int .u8 5, .int .u8 0, .int .u8 0, .int .u16 (p3 : Int), .int .u8 0, .int .u8 0, .bool false, .bool false, .int .u8 0, .slice A n c] 82))
  clear e_frame e_len
  go_enter Tryz.func42, Tryz.ntmps42
  go_wp2_with fail
  refine (K0.out _).mono ?_
  rintro e w1 ⟨rfl, e1⟩
  rw [e1]
  clear e1
  go_wp2_with fail
  refine (K1.out _).mono ?_
  rintro e w1 ⟨rfl, e1⟩
  rw [e1]
  clear e1
  go_wp2_with fail
  refine (K2.out _).mono ?_
  rintro e w1 ⟨rfl, e1⟩
  rw [e1]
  clear e1
  go_wp2
  go_ret
  exact ⟨rfl, by first | exact Hb.out | exact Hb.out.alloc Hb.out.size _⟩
set_option maxHeartbeats 400000 in
set_option maxRecDepth 100000 in
theorem chk_sof_ok (w : World) (p3 : Nat) (A : Option Addr) (c : Nat) (e_frame : p3 ≤ 2047) : Calls Tryz.prog 42 #[.agg #[.int .u8 5, .int .u8 0, .int .u8 0, .int .u16 (p3 : Int), .int .u8 0, .int .u8 0, .bool false, .bool false, .int .u8 0, .slice A 0 c]] w (ResI w 0) := by
  have K0 := Lib.hid fun W => known_ref W 5
  have K1 := Lib.hid fun W => tok_ref W 5
  have K2 := Lib.hid fun W => hasD_ref W 5
  rw [show ((5 : Nat) == 1 || (5 : Nat) == 2 || (5 : Nat) == 3 || (5 : Nat) == 5 || (5 : Nat) == 6 || (5 : Nat) == 8 || (5 : Nat) == 9 || (5 : Nat) == 10 || (5 : Nat) == 11 || (5 : Nat) == 13 || (5 : Nat) == 14) = true from rfl] at K0
  rw [show ((5 : Nat) == 1 || (5 : Nat) == 9 || (5 : Nat) == 13) = false from rfl] at K1
  rw [show ((5 : Nat) == 3 || (5 : Nat) == 11) = false from rfl] at K2
  have i_frame : ¬ (2047 : Int) < (p3 : Int) := by omega
  have Hb := Lib.hid ((Below.refl w.heap.size w).alloc (Nat.le_refl _) (.cells #[.int .u8 5, .int .u8 0, .int .u8 0, .int .u16 (p3 : Int), .int .u8 0, .int .u8 0, .bool false, .bool false, .int .u8 0, .slice A 0 c] 82))
  clear e_frame
  go_enter Tryz.func42, Tryz.ntmps42
  go_wp2_with fail
  refine (K0.out _).mono ?_
  rintro e w1 ⟨rfl, e1⟩
  rw [e1]
  clear e1
  go_wp2_with fail
  refine (K1.out _).mono ?_
  rintro e w1 ⟨rfl, e1⟩
  rw [e1]
  clear e1
  go_wp2_with fail
  refine (K2.out _).mono ?_
  rintro e w1 ⟨rfl, e1⟩
  rw [e1]
  clear e1
  go_wp2
  go_ret
  exact ⟨rfl, by first | exact Hb.out | exact Hb.out.alloc Hb.out.size _⟩

end Go.Proofs.YtgihpgdjkanodaaGreatDoor
