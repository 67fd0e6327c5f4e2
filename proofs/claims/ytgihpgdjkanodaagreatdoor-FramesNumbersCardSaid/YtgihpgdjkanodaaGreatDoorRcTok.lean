/-
  Helper text: the reference's Check, packets of a kind, way by way; no statement is proved here.
-/
import Derived.Test.YtgihpgdjkanodaaGreatDoorReF
namespace Go.Proofs.YtgihpgdjkanodaaGreatDoor
open Go Go.RowKit

set_option maxHeartbeats 400000 in
set_option maxRecDepth 100000 in
theorem chk_tok_addr (w : World) (p0 p1 p2 p3 p4 p5 p8 n : Nat) (p6 p7 : Bool) (A : Option Addr) (c : Nat) (hk : (p0 == 1 || p0 == 2 || p0 == 3 || p0 == 5 || p0 == 6 || p0 == 8 || p0 == 9 || p0 == 10 || p0 == 11 || p0 == 13 || p0 == 14) = true) (ht : (p0 == 1 || p0 == 9 || p0 == 13) = true) (hd : (p0 == 3 || p0 == 11) = false) (h5 : p0 ≠ 5) (h8 : p0 ≠ 8) (e_addr : 127 < p1) : Calls Tryz.prog 42 #[.agg #[.int .u8 (p0 : Int), .int .u8 (p1 : Int), .int .u8 (p2 : Int), .int .u16 (p3 : Int), .int .u8 (p4 : Int), .int .u8 (p5 : Int), .bool p6, .bool p7, .int .u8 (p8 : Int), .slice A n c]] w (ResI w 1) := by
  have K0 := Lib.hid fun W => known_ref W p0
  have K1 := Lib.hid fun W => tok_ref W p0
  have K2 := Lib.hid fun W => hasD_ref W p0
  rw [hk] at K0
  rw [ht] at K1
  rw [hd] at K2
  have m5 : ¬ (p0 : Int) = 5 := by omega
  have m8 : ¬ (p0 : Int) = 8 := by omega
  have g5 : ((p0 : Int) == 5) = false := beq_eq_false_iff_ne.2 m5
  have g8 : ((p0 : Int) == 8) = false := beq_eq_false_iff_ne.2 m8
  have i_addr : (127 : Int) < (p1 : Int) := by omega
  have Hb := Lib.hid ((Below.refl w.heap.size w).alloc (Nat.le_refl _) (.cells #[.int .u8 (p0 : Int), .int .u8 (p1 : Int), .int .u8 (p2 : Int), .int .u16 (p3 : Int), .int .u8 (p4 : Int), .int .u8 (p5 : Int), .bool p6, .bool p7, .int .u8 (p8 : Int), .slice A n c] 82))
  clear e_addr hk ht hd h5 h8
  go_enter Tryz.func42, Tryz.ntmps42
  go_wp2_with fail
  refine (K0.out _).mono ?_
  rintro e w1 ⟨rfl, e1⟩
  rw [e1]
  clear e1
  go_wp2_with fail
  refine (K1.out _).mono ?_
  rintro e w1 ⟨rfl, e1⟩
  rw [e1]
  clear e1
  go_wp2
  go_ret
  exact ⟨rfl, by first | exact Hb.out | exact Hb.out.alloc Hb.out.size _⟩
set_option maxHeartbeats 400000 in
set_option maxRecDepth 100000 in
theorem chk_tok_endp (w : World) (p0 p1 p2 p3 p4 p5 p8 n : Nat) (p6 p7 : Bool) (A : Option Addr) (c : Nat) (hk : (p0 == 1 || p0 == 2 || p0 == 3 || p0 == 5 || p0 == 6 || p0 == 8 || p0 == 9 || p0 == 10 || p0 == 11 || p0 == 13 || p0 == 14) = true) (ht : (p0 == 1 || p0 == 9 || p0 == 13) = true) (hd : (p0 == 3 || p0 == 11) = false) (h5 : p0 ≠ 5) (h8 : p0 ≠ 8) (e_addr : p1 ≤ 127) (e_endp : 15 < p2) : Calls Tryz.prog 42 #[.agg #[.int .u8 (p0 : Int), .int .u8 (p1 : Int), .int .u8 (p2 : Int), .int .u16 (p3 : Int), .int .u8 (p4 : Int), .int .u8 (p5 : Int), .bool p6, .bool p7, .int .u8 (p8 : Int), .slice A n c]] w (ResI w 1) := by
  have K0 := Lib.hid fun W => known_ref W p0
  have K1 := Lib.hid fun W => tok_ref W p0
  have K2 := Lib.hid fun W => hasD_ref W p0
  rw [hk] at K0
  rw [ht] at K1
  rw [hd] at K2
  have m5 : ¬ (p0 : Int) = 5 := by omega
  have m8 : ¬ (p0 : Int) = 8 := by omega
  have g5 : ((p0 : Int) == 5) = false := beq_eq_false_iff_ne.2 m5
  have g8 : ((p0 : Int) == 8) = false := beq_eq_false_iff_ne.2 m8
  have i_addr : ¬ (127 : Int) < (p1 : Int) := by omega
  have i_endp : (15 : Int) < (p2 : Int) := by omega
  have Hb := Lib.hid ((Below.refl w.heap.size w).alloc (Nat.le_refl _) (.cells #[.int .u8 (p0 : Int), .int .u8 (p1 : Int), .int .u8 (p2 : Int), .int .u16 (p3 : Int), .int .u8 (p4 : Int), .int .u8 (p5 : Int), .bool p6, .bool p7, .int .u8 (p8 : Int), .slice A n c] 82))
  clear e_addr e_endp hk ht hd h5 h8
  go_enter Tryz.func42, Tryz.ntmps42
  go_wp2_with fail
  refine (K0.out _).mono ?_
  rintro e w1 ⟨rfl, e1⟩
  rw [e1]
  clear e1
  go_wp2_with fail
  refine (K1.out _).mono ?_
  rintro e w1 ⟨rfl, e1⟩
  rw [e1]
  clear e1
  go_wp2
  go_ret
  exact ⟨rfl, by first | exact Hb.out | exact Hb.out.alloc Hb.out.size _⟩
set_option maxHeartbeats 400000 in
set_option maxRecDepth 100000 in
theorem chk_tok_frame (w : World) (p0 p1 p2 p3 p4 p5 p8 n : Nat) (p6 p7 : Bool) (A : Option Addr) (c : Nat) (hk : (p0 == 1 || p0 == 2 || p0 == 3 || p0 == 5 || p0 == 6 || p0 == 8 || p0 == 9 || p0 == 10 || p0 == 11 || p0 == 13 || p0 == 14) = true) (ht : (p0 == 1 || p0 == 9 || p0 == 13) = true) (hd : (p0 == 3 || p0 == 11) = false) (h5 : p0 ≠ 5) (h8 : p0 ≠ 8) (e_addr : p1 ≤ 127) (e_endp : p2 ≤ 15) (e_frame : p3 ≠ 0) : Calls Tryz.prog 42 #[.agg #[.int .u8 (p0 : Int), .int .u8 (p1 : Int), .int .u8 (p2 : Int), .int .u16 (p3 : Int), .int .u8 (p4 : Int), .int .u8 (p5 : Int), .bool p6, .bool p7, .int .u8 (p8 : Int), .slice A n c]] w (ResI w 1) := by
  have K0 := Lib.hid fun W => known_ref W p0
  have K1 := Lib.hid fun W => tok_ref W p0
  have K2 := Lib.hid fun W => hasD_ref W p0
  rw [hk] at K0
  rw [ht] at K1
  rw [hd] at K2
  have m5 : ¬ (p0 : Int) = 5 := by omega
  have m8 : ¬ (p0 : Int) = 8 := by omega
  have g5 : ((p0 : Int) == 5) = false := beq_eq_false_iff_ne.2 m5
  have g8 : ((p0 : Int) == 8) = false := beq_eq_false_iff_ne.2 m8
  have i_addr : ¬ (127 : Int) < (p1 : Int) := by omega
  have i_endp : ¬ (15 : Int) < (p2 : Int) := by omega
  have m_frame : ¬ (p3 : Int) = 0 := by omega
  have i_frame : ((p3 : Int) == 0) = false := beq_eq_false_iff_ne.2 m_frame
  have Hb := Lib.hid ((Below.refl w.heap.size w).alloc (Nat.le_refl _) (.cells #[.int .u8 (p0 : Int), .int .u8 (p1 : Int), .int .u8 (p2 : Int), .int .u16 (p3 : Int), .int .u8 (p4 : Int), .int .u8 (p5 : Int), .bool p6, .bool p7, .int .u8 (p8 : Int), .slice A n c] 82))
  clear e_addr e_endp e_frame hk ht hd h5 h8
  go_enter Tryz.func42, Tryz.ntmps42
  go_wp2_with fail
  refine (K0.out _).mono ?_
  rintro e w1 ⟨rfl, e1⟩
  rw [e1]
  clear e1
  go_wp2_with fail
  refine (K1.out _).mono ?_
  rintro e w1 ⟨rfl, e1⟩
  rw [e1]
  clear e1
  go_wp2
  go_ret
  exact ⟨rfl, by first | exact Hb.out | exact Hb.out.alloc Hb.out.size _⟩
set_option maxHeartbeats 400000 in
set_option maxRecDepth 100000 in
theorem chk_tok_hub (w : World) (p0 p1 p2 p4 p5 p8 n : Nat) (p6 p7 : Bool) (A : Option Addr) (c : Nat) (hk : (p0 == 1 || p0 == 2 || p0 == 3 || p0 == 5 || p0 == 6 || p0 == 8 || p0 == 9 || p0 == 10 || p0 == 11 || p0 == 13 || p0 == 14) = true) (ht : (p0 == 1 || p0 == 9 || p0 == 13) = true) (hd : (p0 == 3 || p0 == 11) = false) (h5 : p0 ≠ 5) (h8 : p0 ≠ 8) (e_addr : p1 ≤ 127) (e_endp : p2 ≤ 15) (e_hub : p4 ≠ 0) : Calls Tryz.prog 42 #[.agg #[.int .u8 (p0 : Int), .int .u8 (p1 : Int), .int .u8 (p2 : Int), .int .u16 0, .int .u8 (p4 : Int), .int .u8 (p5 : Int), .bool p6, .bool p7, .int .u8 (p8 : Int), .slice A n c]] w (ResI w 1) := by
  have K0 := Lib.hid fun W => known_ref W p0
  have K1 := Lib.hid fun W => tok_ref W p0
  have K2 := Lib.hid fun W => hasD_ref W p0
  rw [hk] at K0
  rw [ht] at K1
  rw [hd] at K2
  have m5 : ¬ (p0 : Int) = 5 := by omega
  have m8 : ¬ (p0 : Int) = 8 := by omega
  have g5 : ((p0 : Int) == 5) = false := beq_eq_false_iff_ne.2 m5
  have g8 : ((p0 : Int) == 8) = false := beq_eq_false_iff_ne.2 m8
  have i_addr : ¬ (127 : Int) < (p1 : Int) := by omega
  have i_endp : ¬ (15 : Int) < (p2 : Int) := by omega
  have m_hub : ¬ (p4 : Int) = 0 := by omega
  have i_hub : ((p4 : Int) == 0) = false := beq_eq_false_iff_ne.2 m_hub
  have Hb := Lib.hid ((Below.refl w.heap.size w).alloc (Nat.le_refl _) (.cells #[.int .u8 (p0 : Int), .int .u8 (p1 : Int), .int .u8 (p2 : Int), .int .u16 0, .int .u8 (p4 : Int), .int .u8 (p5 : Int), .bool p6, .bool p7, .int .u8 (p8 : Int), .slice A n c] 82))
  clear e_addr e_endp e_hub hk ht hd h5 h8
  go_enter Tryz.func42, Tryz.ntmps42
  go_wp2_with fail
  refine (K0.out _).mono ?_
  rintro e w1 ⟨rfl, e1⟩
  rw [e1]
  clear e1
  go_wp2_with fail
  refine (K1.out _).mono ?_
  rintro e w1 ⟨rfl, e1⟩
  rw [e1]
  clear e1
  go_wp2
  go_ret
  exact ⟨rfl, by first | exact Hb.out | exact Hb.out.alloc Hb.out.size _⟩
set_option maxHeartbeats 400000 in
set_option maxRecDepth 100000 in
theorem chk_tok_port (w : World) (p0 p1 p2 p5 p8 n : Nat) (p6 p7 : Bool) (A : Option Addr) (c : Nat) (hk : (p0 == 1 || p0 == 2 || p0 == 3 || p0 == 5 || p0 == 6 || p0 == 8 || p0 == 9 || p0 == 10 || p0 == 11 || p0 == 13 || p0 == 14) = true) (ht : (p0 == 1 || p0 == 9 || p0 == 13) = true) (hd : (p0 == 3 || p0 == 11) = false) (h5 : p0 ≠ 5) (h8 : p0 ≠ 8) (e_addr : p1 ≤ 127) (e_endp : p2 ≤ 15) (e_port : p5 ≠ 0) : Calls Tryz.prog 42 #[.agg #[.int .u8 (p0 : Int), .int .u8 (p1 : Int), .int .u8 (p2 : Int), .int .u16 0, .int .u8 0, .int .u8 (p5 : Int), .bool p6, .bool p7, .int .u8 (p8 : Int), .slice A n c]] w (ResI w 1) := by
  have K0 := Lib.hid fun W => known_ref W p0
  have K1 := Lib.hid fun W => tok_ref W p0
  have K2 := Lib.hid fun W => hasD_ref W p0
  rw [hk] at K0
  rw [ht] at K1
  rw [hd] at K2
  have m5 : ¬ (p0 : Int) = 5 := by omega
  have m8 : ¬ (p0 : Int) = 8 := by omega
  have g5 : ((p0 : Int) == 5) = false := beq_eq_false_iff_ne.2 m5
  have g8 : ((p0 : Int) == 8) = false := beq_eq_false_iff_ne.2 m8
  have i_addr : ¬ (127 : Int) < (p1 : Int) := by omega
  have i_endp : ¬ (15 : Int) < (p2 : Int) := by omega
  have m_port : ¬ (p5 : Int) = 0 := by omega
  have i_port : ((p5 : Int) == 0) = false := beq_eq_false_iff_ne.2 m_port
  have Hb := Lib.hid ((Below.refl w.heap.size w).alloc (Nat.le_refl _) (.cells #[.int .u8 (p0 : Int), .int .u8 (p1 : Int), .int .u8 (p2 : Int), .int .u16 0, .int .u8 0, .int .u8 (p5 : Int), .bool p6, .bool p7, .int .u8 (p8 : Int), .slice A n c] 82))
  clear e_addr e_endp e_port hk ht hd h5 h8
  go_enter Tryz.func42, Tryz.ntmps42
  go_wp2_with fail
  refine (K0.out _).mono ?_
  rintro e w1 ⟨rfl, e1⟩
  rw [e1]
  clear e1
  go_wp2_with fail
  refine (K1.out _).mono ?_
  rintro e w1 ⟨rfl, e1⟩
  rw [e1]
  clear e1
  go_wp2
  go_ret
  exact ⟨rfl, by first | exact Hb.out | exact Hb.out.alloc Hb.out.size _⟩
set_option maxHeartbeats 400000 in
set_option maxRecDepth 100000 in
theorem chk_tok_comp (w : World) (p0 p1 p2 p8 n : Nat) (p7 : Bool) (A : Option Addr) (c : Nat) (hk : (p0 == 1 || p0 == 2 || p0 == 3 || p0 == 5 || p0 == 6 || p0 == 8 || p0 == 9 || p0 == 10 || p0 == 11 || p0 == 13 || p0 == 14) = true) (ht : (p0 == 1 || p0 == 9 || p0 == 13) = true) (hd : (p0 == 3 || p0 == 11) = false) (h5 : p0 ≠ 5) (h8 : p0 ≠ 8) (e_addr : p1 ≤ 127) (e_endp : p2 ≤ 15) : Calls Tryz.prog 42 #[.agg #[.int .u8 (p0 : Int), .int .u8 (p1 : Int), .int .u8 (p2 : Int), .int .u16 0, .int .u8 0, .int .u8 0, .bool true, .bool p7, .int .u8 (p8 : Int), .slice A n c]] w (ResI w 1) := by
  have K0 := Lib.hid fun W => known_ref W p0
  have K1 := Lib.hid fun W => tok_ref W p0
  have K2 := Lib.hid fun W => hasD_ref W p0
  rw [hk] at K0
  rw [ht] at K1
  rw [hd] at K2
  have m5 : ¬ (p0 : Int) = 5 := by omega
  have m8 : ¬ (p0 : Int) = 8 := by omega
  have g5 : ((p0 : Int) == 5) = false := beq_eq_false_iff_ne.2 m5
  have g8 : ((p0 : Int) == 8) = false := beq_eq_false_iff_ne.2 m8
  have i_addr : ¬ (127 : Int) < (p1 : Int) := by omega
  have i_endp : ¬ (15 : Int) < (p2 : Int) := by omega
  have Hb := Lib.hid ((Below.refl w.heap.size w).alloc (Nat.le_refl _) (.cells #[.int .u8 (p0 : Int), .int .u8 (p1 : Int), .int .u8 (p2 : Int), .int .u16 0, .int .u8 0, .int .u8 0, .bool true, .bool p7, .int .u8 (p8 : Int), .slice A n c] 82))
  clear e_addr e_endp hk ht hd h5 h8
  go_enter Tryz.func42, Tryz.ntmps42
  go_wp2_with fail
  refine (K0.out _).mono ?_
  rintro e w1 ⟨rfl, e1⟩
  rw [e1]
  clear e1
  go_wp2_with fail
  refine (K1.out _).mono ?_
  rintro e w1 ⟨rfl, e1⟩
  rw [e1]
  clear e1
  go_wp2
  go_ret
  exact ⟨rfl, by first | exact Hb.out | exact Hb.out.alloc Hb.out.size _⟩
set_option maxHeartbeats 400000 in
set_option maxRecDepth 100000 in
theorem chk_tok_low (w : World) (p0 p1 p2 p8 n : Nat) (A : Option Addr) (c : Nat) (hk : (p0 == 1 || p0 == 2 || p0 == 3 || p0 == 5 || p0 == 6 || p0 == 8 || p0 == 9 || p0 == 10 || p0 == 11 || p0 == 13 || p0 == 14) = true) (ht : (p0 == 1 || p0 == 9 || p0 == 13) = true) (hd : (p0 == 3 || p0 == 11) = false) (h5 : p0 ≠ 5) (h8 : p0 ≠ 8) (e_addr : p1 ≤ 127) (e_endp : p2 ≤ 15) : Calls Tryz.prog 42 #[.agg #[.int .u8 (p0 : Int), .int .u8 (p1 : Int), .int .u8 (p2 : Int), .int .u16 0, .int .u8 0, .int .u8 0, .bool false, .bool true, .int .u8 (p8 : Int), .slice A n c]] w (ResI w 1) := by
  have K0 := Lib.hid fun W => known_ref W p0
  have K1 := Lib.hid fun W => tok_ref W p0
  have K2 := Lib.hid fun W => hasD_ref W p0
  rw [hk] at K0
  rw [ht] at K1
  rw [hd] at K2
  have m5 : ¬ (p0 : Int) = 5 := by omega
  have m8 : ¬ (p0 : Int) = 8 := by omega
  have g5 : ((p0 : Int) == 5) = false := beq_eq_false_iff_ne.2 m5
  have g8 : ((p0 : Int) == 8) = false := beq_eq_false_iff_ne.2 m8
  have i_addr : ¬ (127 : Int) < (p1 : Int) := by omega
  have i_endp : ¬ (15 : Int) < (p2 : Int) := by omega
  have Hb := Lib.hid ((Below.refl w.heap.size w).alloc (Nat.le_refl _) (.cells #[.int .u8 (p0 : Int), .int .u8 (p1 : Int), .int .u8 (p2 : Int), .int .u16 0, .int .u8 0, .int .u8 0, .bool false, .bool true, .int .u8 (p8 : Int), .slice A n c] 82))
  clear e_addr e_endp hk ht hd h5 h8
  go_enter Tryz.func42, Tryz.ntmps42
  go_wp2_with fail
  refine (K0.out _).mono ?_
  rintro e w1 ⟨rfl, e1⟩
  rw [e1]
  clear e1
  go_wp2_with fail
  refine (K1.out _).mono ?_
  rintro e w1 ⟨rfl, e1⟩
  rw [e1]
  clear e1
  go_wp2
  go_ret
  exact ⟨rfl, by first | exact Hb.out | exact Hb.out.alloc Hb.out.size _⟩
set_option maxHeartbeats 400000 in
set_option maxRecDepth 100000 in
theorem chk_tok_kind (w : World) (p0 p1 p2 p8 n : Nat) (A : Option Addr) (c : Nat) (hk : (p0 == 1 || p0 == 2 || p0 == 3 || p0 == 5 || p0 == 6 || p0 == 8 || p0 == 9 || p0 == 10 || p0 == 11 || p0 == 13 || p0 == 14) = true) (ht : (p0 == 1 || p0 == 9 || p0 == 13) = true) (hd : (p0 == 3 || p0 == 11) = false) (h5 : p0 ≠ 5) (h8 : p0 ≠ 8) (e_addr : p1 ≤ 127) (e_endp : p2 ≤ 15) (e_kind : p8 ≠ 0) : Calls Tryz.prog 42 #[.agg #[.int .u8 (p0 : Int), .int .u8 (p1 : Int), .int .u8 (p2 : Int), .int .u16 0, .int .u8 0, .int .u8 0, .bool false, .bool false, .int .u8 (p8 : Int), .slice A n c]] w (ResI w 1) := by
  have K0 := Lib.hid fun W => known_ref W p0
  have K1 := Lib.hid fun W => tok_ref W p0
  have K2 := Lib.hid fun W => hasD_ref W p0
  rw [hk] at K0
  rw [ht] at K1
  rw [hd] at K2
  have m5 : ¬ (p0 : Int) = 5 := by omega
  have m8 : ¬ (p0 : Int) = 8 := by omega
  have g5 : ((p0 : Int) == 5) = false := beq_eq_false_iff_ne.2 m5
  have g8 : ((p0 : Int) == 8) = false := beq_eq_false_iff_ne.2 m8
  have i_addr : ¬ (127 : Int) < (p1 : Int) := by omega
  have i_endp : ¬ (15 : Int) < (p2 : Int) := by omega
  have m_kind : ¬ (p8 : Int) = 0 := by omega
  have i_kind : ((p8 : Int) == 0) = false := beq_eq_false_iff_ne.2 m_kind
  have Hb := Lib.hid ((Below.refl w.heap.size w).alloc (Nat.le_refl _) (.cells #[.int .u8 (p0 : Int), .int .u8 (p1 : Int), .int .u8 (p2 : Int), .int .u16 0, .int .u8 0, .int .u8 0, .bool false, .bool false, .int .u8 (p8 : Int), .slice A n c] 82))
  clear e_addr e_endp e_kind hk ht hd h5 h8
  go_enter Tryz.func42, Tryz.ntmps42
  go_wp2_with fail
  refine (K0.out _).mono ?_
  rintro e w1 ⟨rfl, e1⟩
  rw [e1]
  clear e1
  go_wp2_with fail
  refine (K1.out _).mono ?_
  rintro e w1 ⟨rfl, e1⟩
  rw [e1]
  clear e1
  go_wp2
  go_ret
  exact ⟨rfl, by first | exact Hb.out | exact Hb.out.alloc Hb.out.size _⟩
set_option maxHeartbeats 400000 in
set_option maxRecDepth 100000 in
theorem chk_tok_len (w : World) (p0 p1 p2 n : Nat) (A : Option Addr) (c : Nat) (hk : (p0 == 1 || p0 == 2 || p0 == 3 || p0 == 5 || p0 == 6 || p0 == 8 || p0 == 9 || p0 == 10 || p0 == 11 || p0 == 13 || p0 == 14) = true) (ht : (p0 == 1 || p0 == 9 || p0 == 13) = true) (hd : (p0 == 3 || p0 == 11) = false) (h5 : p0 ≠ 5) (h8 : p0 ≠ 8) (e_addr : p1 ≤ 127) (e_endp : p2 ≤ 15) (e_len : n ≠ 0) : Calls Tryz.prog 42 #[.agg #[.int .u8 (p0 : Int), .int .u8 (p1 : Int), .int .u8 (p2 : Int), .int .u16 0, .int .u8 0, .int .u8 0, .bool false, .bool false, .int .u8 0, .slice A n c]] w (ResI w 1) := by
  have K0 := Lib.hid fun W => known_ref W p0
  have K1 := Lib.hid fun W => tok_ref W p0
  have K2 := Lib.hid fun W => hasD_ref W p0
  rw [hk] at K0
  rw [ht] at K1
  rw [hd] at K2
  have m5 : ¬ (p0 : Int) = 5 := by omega
  have m8 : ¬ (p0 : Int) = 8 := by omega
  have g5 : ((p0 : Int) == 5) = false := beq_eq_false_iff_ne.2 m5
  have g8 : ((p0 : Int) == 8) = false := beq_eq_false_iff_ne.2 m8
  have i_addr : ¬ (127 : Int) < (p1 : Int) := by omega
  have i_endp : ¬ (15 : Int) < (p2 : Int) := by omega
  have m_len : ¬ (n : Int) = 0 := by omega
  have i_len : ((n : Int) == 0) = false := beq_eq_false_iff_ne.2 m_len
  have Hb := Lib.hid ((Below.refl w.heap.size w).alloc (Nat.le_refl _) (.cells #[.int .u8 (p0 : Int), .int .u8 (p1 : Int), .int .u8 (p2 : Int), .int .u16 0, .int .u8 0, .int .u8 0, .bool false, .bool false, .int .u8 0, .slice A n c] 82))
  clear e_addr e_endp e_len hk ht hd h5 h8
  go_enter Tryz.func42, Tryz.ntmps42
  go_wp2_with fail
  refine (K0.out _).mono ?_
  rintro e w1 ⟨rfl, e1⟩
  rw [e1]
  clear e1
  go_wp2_with fail
  refine (K1.out _).mono ?_
  rintro e w1 ⟨rfl, e1⟩
  rw [e1]
  clear e1
  go_wp2_with fail
  refine (K2.out _).mono ?_
  rintro e w1 ⟨rfl, e1⟩
  rw [e1]
  clear e1
  go_wp2
  go_ret
  exact ⟨rfl, by first | exact Hb.out | exact Hb.out.alloc Hb.out.size _⟩
set_option maxHeartbeats 400000 in
set_option maxRecDepth 100000 in
theorem chk_tok_ok (w : World) (p0 p1 p2 : Nat) (A : Option Addr) (c : Nat) (hk : (p0 == 1 || p0 == 2 || p0 == 3 || p0 == 5 || p0 == 6 || p0 == 8 || p0 == 9 || p0 == 10 || p0 == 11 || p0 == 13 || p0 == 14) = true) (ht : (p0 == 1 || p0 == 9 || p0 == 13) = true) (hd : (p0 == 3 || p0 == 11) = false) (h5 : p0 ≠ 5) (h8 : p0 ≠ 8) (e_addr : p1 ≤ 127) (e_endp : p2 ≤ 15) : Calls Tryz.prog 42 #[.agg #[.int .u8 (p0 : Int), .int .u8 (p1 : Int), .int .u8 (p2 : Int), .int .u16 0, .int .u8 0, .int .u8 0, .bool false, .bool false, .int .u8 0, .slice A 0 c]] w (ResI w 0) := by
  have K0 := Lib.hid fun W => known_ref W p0
  have K1 := Lib.hid fun W => tok_ref W p0
  have K2 := Lib.hid fun W => hasD_ref W p0
  rw [hk] at K0
  rw [ht] at K1
  rw [hd] at K2
  have m5 : ¬ (p0 : Int) = 5 := by omega
  have m8 : ¬ (p0 : Int) = 8 := by omega
  have g5 : ((p0 : Int) == 5) = false := beq_eq_false_iff_ne.2 m5
  have g8 : ((p0 : Int) == 8) = false := beq_eq_false_iff_ne.2 m8
  have i_addr : ¬ (127 : Int) < (p1 : Int) := by omega
  have i_endp : ¬ (15 : Int) < (p2 : Int) := by omega
  have Hb := Lib.hid ((Below.refl w.heap.size w).alloc (Nat.le_refl _) (.cells #[.int .u8 (p0 : Int), .int .u8 (p1 : Int), .int .u8 (p2 : Int), .int .u16 0, .int .u8 0, .int .u8 0, .bool false, .bool false, .int .u8 0, .slice A 0 c] 82))
  clear e_addr e_endp hk ht hd h5 h8
  go_enter Tryz.func42, Tryz.ntmps42
  go_wp2_with fail
  refine (K0.out _).mono ?_
  rintro e w1 ⟨rfl, e1⟩
  rw [e1]
  clear e1
  go_wp2_with fail
  refine (K1.out _).mono ?_
  rintro e w1 ⟨rfl, e1⟩
  rw [e1]
  clear e1
  go_wp2_with fail
  refine (K2.out _).mono ?_
  rintro e w1 ⟨rfl, e1⟩
  rw [e1]
  clear e1
  go_wp2
  go_ret
  exact ⟨rfl, by first | exact Hb.out | exact Hb.out.alloc Hb.out.size _⟩

end Go.Proofs.YtgihpgdjkanodaaGreatDoor
