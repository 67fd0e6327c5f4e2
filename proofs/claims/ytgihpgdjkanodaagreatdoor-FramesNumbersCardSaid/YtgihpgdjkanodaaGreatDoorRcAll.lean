/-
  Helper text: the reference's Check; no statement is proved here.
-/
import Derived.Test.YtgihpgdjkanodaaGreatDoorRcTok
import Derived.Test.YtgihpgdjkanodaaGreatDoorRcSof
import Derived.Test.YtgihpgdjkanodaaGreatDoorRcSpl
import Derived.Test.YtgihpgdjkanodaaGreatDoorRcDat
import Derived.Test.YtgihpgdjkanodaaGreatDoorRcBar
import Derived.Test.YtgihpgdjkanodaaGreatDoorFitP
namespace Go.Proofs.YtgihpgdjkanodaaGreatDoor
open Go Go.RowKit

theorem errR_no {r : Rg} {xs : List UInt8} (h : known r.pid = false) : errR r xs = 1 := by
  unfold errR
  rw [if_neg (by rw [h]; simp)]
theorem errR_bad {r : Rg} (ok : r.Ok) {xs : List UInt8} (hk : known r.pid = true) (h : ¬ Fit r xs) : errR r xs = 1 := by
  unfold errR
  rw [if_neg (fun hh => h ((fit_of_fitB r ok xs hk).1 hh.2))]
theorem errR_long {r : Rg} (ok : r.Ok) {xs : List UInt8} (hk : known r.pid = true) (h : Fit r xs) (hl : 1024 < xs.length) : errR r xs = 3 := by
  unfold errR
  rw [if_pos ⟨hk, (fit_of_fitB r ok xs hk).2 h⟩, if_neg (by omega)]
theorem errR_ok {r : Rg} (ok : r.Ok) {xs : List UInt8} (hk : known r.pid = true) (h : Fit r xs) (hl : xs.length ≤ 1024) : errR r xs = 0 := by
  unfold errR
  rw [if_pos ⟨hk, (fit_of_fitB r ok xs hk).2 h⟩, if_pos hl]
set_option maxRecDepth 100000 in
theorem chk_no (w : World) (p0 p1 p2 p3 p4 p5 p8 : Nat) (p6 p7 : Bool) (v : Value) (h : known p0 = false) : Calls Tryz.prog 42 #[.agg #[.int .u8 (p0 : Int), .int .u8 (p1 : Int), .int .u8 (p2 : Int), .int .u16 (p3 : Int), .int .u8 (p4 : Int), .int .u8 (p5 : Int), .bool p6, .bool p7, .int .u8 (p8 : Int), v]] w (ResI w 1) := by
  have K0 := Lib.hid fun W => known_ref W p0
  have h' : (p0 == 1 || p0 == 2 || p0 == 3 || p0 == 5 || p0 == 6 || p0 == 8 || p0 == 9 || p0 == 10 || p0 == 11 || p0 == 13 || p0 == 14) = false := h
  rw [h'] at K0
  clear h h'
  have Hb := Lib.hid ((Below.refl w.heap.size w).alloc (Nat.le_refl _) (.cells #[.int .u8 (p0 : Int), .int .u8 (p1 : Int), .int .u8 (p2 : Int), .int .u16 (p3 : Int), .int .u8 (p4 : Int), .int .u8 (p5 : Int), .bool p6, .bool p7, .int .u8 (p8 : Int), v] 82))
  go_enter Tryz.func42, Tryz.ntmps42
  go_wp2_with fail
  refine (K0.out _).mono ?_
  rintro e w1 ⟨rfl, e1⟩
  rw [e1]
  clear e1
  go_wp2
  go_ret
  exact ⟨rfl, Hb.out⟩
set_option maxRecDepth 100000 in
theorem chkR_tok (w : World) (r : Rg) (ok : r.Ok) (hp : r.pid = 1 ∨ r.pid = 9 ∨ r.pid = 13) (A : Option Addr) (c : Nat) (xs : List UInt8) (hd : r.data = .slice A xs.length c) : Calls Tryz.prog 42 #[.agg (pcells r)] w (ResI w (errR r xs)) := by
  have hkn : known r.pid = true := by rcases hp with h | h | h <;> rw [h] <;> rfl
  have ht : (r.pid == 1 || r.pid == 9 || r.pid == 13) = true := by rcases hp with h | h | h <;> rw [h] <;> rfl
  have hdt : (r.pid == 3 || r.pid == 11) = false := by rcases hp with h | h | h <;> rw [h] <;> rfl
  have h5 : r.pid ≠ 5 := by omega
  have h8 : r.pid ≠ 8 := by omega
  by_cases h_addr : 127 < r.addr
  · rw [errR_bad ok hkn (fun hf => by cases hf <;> first | omega | (simp_all; done) | (simp_all; omega))]
    have H := chk_tok_addr w r.pid r.addr r.endp r.frame r.hub r.port r.kind xs.length r.comp r.low A c hkn ht hdt h5 h8 h_addr
    have e0 : pcells r = #[.int .u8 (r.pid : Int), .int .u8 (r.addr : Int), .int .u8 (r.endp : Int), .int .u16 (r.frame : Int), .int .u8 (r.hub : Int), .int .u8 (r.port : Int), .bool r.comp, .bool r.low, .int .u8 (r.kind : Int), r.data] := rfl
    rw [e0, hd]
    exact H
  by_cases h_endp : 15 < r.endp
  · rw [errR_bad ok hkn (fun hf => by cases hf <;> first | omega | (simp_all; done) | (simp_all; omega))]
    have H := chk_tok_endp w r.pid r.addr r.endp r.frame r.hub r.port r.kind xs.length r.comp r.low A c hkn ht hdt h5 h8 (by omega) h_endp
    have e0 : pcells r = #[.int .u8 (r.pid : Int), .int .u8 (r.addr : Int), .int .u8 (r.endp : Int), .int .u16 (r.frame : Int), .int .u8 (r.hub : Int), .int .u8 (r.port : Int), .bool r.comp, .bool r.low, .int .u8 (r.kind : Int), r.data] := rfl
    rw [e0, hd]
    exact H
  by_cases h_frame : r.frame ≠ 0
  · rw [errR_bad ok hkn (fun hf => by cases hf <;> first | omega | (simp_all; done) | (simp_all; omega))]
    have H := chk_tok_frame w r.pid r.addr r.endp r.frame r.hub r.port r.kind xs.length r.comp r.low A c hkn ht hdt h5 h8 (by omega) (by omega) h_frame
    have e0 : pcells r = #[.int .u8 (r.pid : Int), .int .u8 (r.addr : Int), .int .u8 (r.endp : Int), .int .u16 (r.frame : Int), .int .u8 (r.hub : Int), .int .u8 (r.port : Int), .bool r.comp, .bool r.low, .int .u8 (r.kind : Int), r.data] := rfl
    rw [e0, hd]
    exact H
  by_cases h_hub : r.hub ≠ 0
  · rw [errR_bad ok hkn (fun hf => by cases hf <;> first | omega | (simp_all; done) | (simp_all; omega))]
    have H := chk_tok_hub w r.pid r.addr r.endp r.hub r.port r.kind xs.length r.comp r.low A c hkn ht hdt h5 h8 (by omega) (by omega) h_hub
    have e0 : pcells r = #[.int .u8 (r.pid : Int), .int .u8 (r.addr : Int), .int .u8 (r.endp : Int), .int .u16 (r.frame : Int), .int .u8 (r.hub : Int), .int .u8 (r.port : Int), .bool r.comp, .bool r.low, .int .u8 (r.kind : Int), r.data] := rfl
    rw [e0, hd, Decidable.not_not.1 h_frame]
    exact H
  by_cases h_port : r.port ≠ 0
  · rw [errR_bad ok hkn (fun hf => by cases hf <;> first | omega | (simp_all; done) | (simp_all; omega))]
    have H := chk_tok_port w r.pid r.addr r.endp r.port r.kind xs.length r.comp r.low A c hkn ht hdt h5 h8 (by omega) (by omega) h_port
    have e0 : pcells r = #[.int .u8 (r.pid : Int), .int .u8 (r.addr : Int), .int .u8 (r.endp : Int), .int .u16 (r.frame : Int), .int .u8 (r.hub : Int), .int .u8 (r.port : Int), .bool r.comp, .bool r.low, .int .u8 (r.kind : Int), r.data] := rfl
    rw [e0, hd, Decidable.not_not.1 h_frame, Decidable.not_not.1 h_hub]
    exact H
  by_cases h_comp : r.comp = true
  · rw [errR_bad ok hkn (fun hf => by cases hf <;> first | omega | (simp_all; done) | (simp_all; omega))]
    have H := chk_tok_comp w r.pid r.addr r.endp r.kind xs.length r.low A c hkn ht hdt h5 h8 (by omega) (by omega)
    have e0 : pcells r = #[.int .u8 (r.pid : Int), .int .u8 (r.addr : Int), .int .u8 (r.endp : Int), .int .u16 (r.frame : Int), .int .u8 (r.hub : Int), .int .u8 (r.port : Int), .bool r.comp, .bool r.low, .int .u8 (r.kind : Int), r.data] := rfl
    rw [e0, hd, Decidable.not_not.1 h_frame, Decidable.not_not.1 h_hub, Decidable.not_not.1 h_port, h_comp]
    exact H
  by_cases h_low : r.low = true
  · rw [errR_bad ok hkn (fun hf => by cases hf <;> first | omega | (simp_all; done) | (simp_all; omega))]
    have H := chk_tok_low w r.pid r.addr r.endp r.kind xs.length A c hkn ht hdt h5 h8 (by omega) (by omega)
    have e0 : pcells r = #[.int .u8 (r.pid : Int), .int .u8 (r.addr : Int), .int .u8 (r.endp : Int), .int .u16 (r.frame : Int), .int .u8 (r.hub : Int), .int .u8 (r.port : Int), .bool r.comp, .bool r.low, .int .u8 (r.kind : Int), r.data] := rfl
    rw [e0, hd, Decidable.not_not.1 h_frame, Decidable.not_not.1 h_hub, Decidable.not_not.1 h_port, Bool.eq_false_iff.2 h_comp, h_low]
    exact H
  by_cases h_kind : r.kind ≠ 0
  · rw [errR_bad ok hkn (fun hf => by cases hf <;> first | omega | (simp_all; done) | (simp_all; omega))]
    have H := chk_tok_kind w r.pid r.addr r.endp r.kind xs.length A c hkn ht hdt h5 h8 (by omega) (by omega) h_kind
    have e0 : pcells r = #[.int .u8 (r.pid : Int), .int .u8 (r.addr : Int), .int .u8 (r.endp : Int), .int .u16 (r.frame : Int), .int .u8 (r.hub : Int), .int .u8 (r.port : Int), .bool r.comp, .bool r.low, .int .u8 (r.kind : Int), r.data] := rfl
    rw [e0, hd, Decidable.not_not.1 h_frame, Decidable.not_not.1 h_hub, Decidable.not_not.1 h_port, Bool.eq_false_iff.2 h_comp, Bool.eq_false_iff.2 h_low]
    exact H
  by_cases h_len : xs.length ≠ 0
  · rw [errR_bad ok hkn (fun hf => by cases hf <;> first | omega | (simp_all; done) | (simp_all; omega))]
    have H := chk_tok_len w r.pid r.addr r.endp xs.length A c hkn ht hdt h5 h8 (by omega) (by omega) h_len
    have e0 : pcells r = #[.int .u8 (r.pid : Int), .int .u8 (r.addr : Int), .int .u8 (r.endp : Int), .int .u16 (r.frame : Int), .int .u8 (r.hub : Int), .int .u8 (r.port : Int), .bool r.comp, .bool r.low, .int .u8 (r.kind : Int), r.data] := rfl
    rw [e0, hd, Decidable.not_not.1 h_frame, Decidable.not_not.1 h_hub, Decidable.not_not.1 h_port, Bool.eq_false_iff.2 h_comp, Bool.eq_false_iff.2 h_low, Decidable.not_not.1 h_kind]
    exact H
  rw [errR_ok ok hkn (.tok hp (by omega) (by omega) (Decidable.not_not.1 h_frame) (Decidable.not_not.1 h_hub) (Decidable.not_not.1 h_port) (Bool.eq_false_iff.2 h_comp) (Bool.eq_false_iff.2 h_low) (Decidable.not_not.1 h_kind) (List.eq_nil_of_length_eq_zero (Decidable.not_not.1 h_len))) (by omega)]
  have H := chk_tok_ok w r.pid r.addr r.endp A c hkn ht hdt h5 h8 (by omega) (by omega)
  have e0 : pcells r = #[.int .u8 (r.pid : Int), .int .u8 (r.addr : Int), .int .u8 (r.endp : Int), .int .u16 (r.frame : Int), .int .u8 (r.hub : Int), .int .u8 (r.port : Int), .bool r.comp, .bool r.low, .int .u8 (r.kind : Int), r.data] := rfl
  rw [e0, hd, Decidable.not_not.1 h_frame, Decidable.not_not.1 h_hub, Decidable.not_not.1 h_port, Bool.eq_false_iff.2 h_comp, Bool.eq_false_iff.2 h_low, Decidable.not_not.1 h_kind, Decidable.not_not.1 h_len]
  exact H
set_option maxRecDepth 100000 in
theorem chkR_sof (w : World) (r : Rg) (ok : r.Ok) (hp : r.pid = 5) (A : Option Addr) (c : Nat) (xs : List UInt8) (hd : r.data = .slice A xs.length c) : Calls Tryz.prog 42 #[.agg (pcells r)] w (ResI w (errR r xs)) := by
  have hkn : known r.pid = true := by rw [hp]; rfl
  by_cases h_addr : r.addr ≠ 0
  · rw [errR_bad ok hkn (fun hf => by cases hf <;> first | omega | (simp_all; done) | (simp_all; omega))]
    have H := chk_sof_addr w r.addr r.endp r.frame r.hub r.port r.kind xs.length r.comp r.low A c h_addr
    have e0 : pcells r = #[.int .u8 (r.pid : Int), .int .u8 (r.addr : Int), .int .u8 (r.endp : Int), .int .u16 (r.frame : Int), .int .u8 (r.hub : Int), .int .u8 (r.port : Int), .bool r.comp, .bool r.low, .int .u8 (r.kind : Int), r.data] := rfl
    rw [e0, hd, hp]
    exact H
  by_cases h_endp : r.endp ≠ 0
  · rw [errR_bad ok hkn (fun hf => by cases hf <;> first | omega | (simp_all; done) | (simp_all; omega))]
    have H := chk_sof_endp w r.endp r.frame r.hub r.port r.kind xs.length r.comp r.low A c h_endp
    have e0 : pcells r = #[.int .u8 (r.pid : Int), .int .u8 (r.addr : Int), .int .u8 (r.endp : Int), .int .u16 (r.frame : Int), .int .u8 (r.hub : Int), .int .u8 (r.port : Int), .bool r.comp, .bool r.low, .int .u8 (r.kind : Int), r.data] := rfl
    rw [e0, hd, hp, Decidable.not_not.1 h_addr]
    exact H
  by_cases h_frame : 2047 < r.frame
  · rw [errR_bad ok hkn (fun hf => by cases hf <;> first | omega | (simp_all; done) | (simp_all; omega))]
    have H := chk_sof_frame w r.frame r.hub r.port r.kind xs.length r.comp r.low A c h_frame
    have e0 : pcells r = #[.int .u8 (r.pid : Int), .int .u8 (r.addr : Int), .int .u8 (r.endp : Int), .int .u16 (r.frame : Int), .int .u8 (r.hub : Int), .int .u8 (r.port : Int), .bool r.comp, .bool r.low, .int .u8 (r.kind : Int), r.data] := rfl
    rw [e0, hd, hp, Decidable.not_not.1 h_addr, Decidable.not_not.1 h_endp]
    exact H
  by_cases h_hub : r.hub ≠ 0
  · rw [errR_bad ok hkn (fun hf => by cases hf <;> first | omega | (simp_all; done) | (simp_all; omega))]
    have H := chk_sof_hub w r.frame r.hub r.port r.kind xs.length r.comp r.low A c (by omega) h_hub
    have e0 : pcells r = #[.int .u8 (r.pid : Int), .int .u8 (r.addr : Int), .int .u8 (r.endp : Int), .int .u16 (r.frame : Int), .int .u8 (r.hub : Int), .int .u8 (r.port : Int), .bool r.comp, .bool r.low, .int .u8 (r.kind : Int), r.data] := rfl
    rw [e0, hd, hp, Decidable.not_not.1 h_addr, Decidable.not_not.1 h_endp]
    exact H
  by_cases h_port : r.port ≠ 0
  · rw [errR_bad ok hkn (fun hf => by cases hf <;> first | omega | (simp_all; done) | (simp_all; omega))]
    have H := chk_sof_port w r.frame r.port r.kind xs.length r.comp r.low A c (by omega) h_port
    have e0 : pcells r = #[.int .u8 (r.pid : Int), .int .u8 (r.addr : Int), .int .u8 (r.endp : Int), .int .u16 (r.frame : Int), .int .u8 (r.hub : Int), .int .u8 (r.port : Int), .bool r.comp, .bool r.low, .int .u8 (r.kind : Int), r.data] := rfl
    rw [e0, hd, hp, Decidable.not_not.1 h_addr, Decidable.not_not.1 h_endp, Decidable.not_not.1 h_hub]
    exact H
  by_cases h_comp : r.comp = true
  · rw [errR_bad ok hkn (fun hf => by cases hf <;> first | omega | (simp_all; done) | (simp_all; omega))]
    have H := chk_sof_comp w r.frame r.kind xs.length r.low A c (by omega)
    have e0 : pcells r = #[.int .u8 (r.pid : Int), .int .u8 (r.addr : Int), .int .u8 (r.endp : Int), .int .u16 (r.frame : Int), .int .u8 (r.hub : Int), .int .u8 (r.port : Int), .bool r.comp, .bool r.low, .int .u8 (r.kind : Int), r.data] := rfl
    rw [e0, hd, hp, Decidable.not_not.1 h_addr, Decidable.not_not.1 h_endp, Decidable.not_not.1 h_hub, Decidable.not_not.1 h_port, h_comp]
    exact H
  by_cases h_low : r.low = true
  · rw [errR_bad ok hkn (fun hf => by cases hf <;> first | omega | (simp_all; done) | (simp_all; omega))]
    have H := chk_sof_low w r.frame r.kind xs.length A c (by omega)
    have e0 : pcells r = #[.int .u8 (r.pid : Int), .int .u8 (r.addr : Int), .int .u8 (r.endp : Int), .int .u16 (r.frame : Int), .int .u8 (r.hub : Int), .int .u8 (r.port : Int), .bool r.comp, .bool r.low, .int .u8 (r.kind : Int), r.data] := rfl
    rw [e0, hd, hp, Decidable.not_not.1 h_addr, Decidable.not_not.1 h_endp, Decidable.not_not.1 h_hub, Decidable.not_not.1 h_port, Bool.eq_false_iff.2 h_comp, h_low]
    exact H
  by_cases h_kind : r.kind ≠ 0
  · rw [errR_bad ok hkn (fun hf => by cases hf <;> first | omega | (simp_all; done) | (simp_all; omega))]
    have H := chk_sof_kind w r.frame r.kind xs.length A c (by omega) h_kind
    have e0 : pcells r = #[.int .u8 (r.pid : Int), .int .u8 (r.addr : Int), .int .u8 (r.endp : Int), .int .u16 (r.frame : Int), .int .u8 (r.hub : Int), .int .u8 (r.port : Int), .bool r.comp, .bool r.low, .int .u8 (r.kind : Int), r.data] := rfl
    rw [e0, hd, hp, Decidable.not_not.1 h_addr, Decidable.not_not.1 h_endp, Decidable.not_not.1 h_hub, Decidable.not_not.1 h_port, Bool.eq_false_iff.2 h_comp, Bool.eq_false_iff.2 h_low]
    exact H
  by_cases h_len : xs.length ≠ 0
  · rw [errR_bad ok hkn (fun hf => by cases hf <;> first | omega | (simp_all; done) | (simp_all; omega))]
    have H := chk_sof_len w r.frame xs.length A c (by omega) h_len
    have e0 : pcells r = #[.int .u8 (r.pid : Int), .int .u8 (r.addr : Int), .int .u8 (r.endp : Int), .int .u16 (r.frame : Int), .int .u8 (r.hub : Int), .int .u8 (r.port : Int), .bool r.comp, .bool r.low, .int .u8 (r.kind : Int), r.data] := rfl
    rw [e0, hd, hp, Decidable.not_not.1 h_addr, Decidable.not_not.1 h_endp, Decidable.not_not.1 h_hub, Decidable.not_not.1 h_port, Bool.eq_false_iff.2 h_comp, Bool.eq_false_iff.2 h_low, Decidable.not_not.1 h_kind]
    exact H
  rw [errR_ok ok hkn (.sof hp (Decidable.not_not.1 h_addr) (Decidable.not_not.1 h_endp) (by omega) (Decidable.not_not.1 h_hub) (Decidable.not_not.1 h_port) (Bool.eq_false_iff.2 h_comp) (Bool.eq_false_iff.2 h_low) (Decidable.not_not.1 h_kind) (List.eq_nil_of_length_eq_zero (Decidable.not_not.1 h_len))) (by omega)]
  have H := chk_sof_ok w r.frame A c (by omega)
  have e0 : pcells r = #[.int .u8 (r.pid : Int), .int .u8 (r.addr : Int), .int .u8 (r.endp : Int), .int .u16 (r.frame : Int), .int .u8 (r.hub : Int), .int .u8 (r.port : Int), .bool r.comp, .bool r.low, .int .u8 (r.kind : Int), r.data] := rfl
  rw [e0, hd, hp, Decidable.not_not.1 h_addr, Decidable.not_not.1 h_endp, Decidable.not_not.1 h_hub, Decidable.not_not.1 h_port, Bool.eq_false_iff.2 h_comp, Bool.eq_false_iff.2 h_low, Decidable.not_not.1 h_kind, Decidable.not_not.1 h_len]
  exact H
set_option maxRecDepth 100000 in
theorem chkR_spl (w : World) (r : Rg) (ok : r.Ok) (hp : r.pid = 8) (A : Option Addr) (c : Nat) (xs : List UInt8) (hd : r.data = .slice A xs.length c) : Calls Tryz.prog 42 #[.agg (pcells r)] w (ResI w (errR r xs)) := by
  have hkn : known r.pid = true := by rw [hp]; rfl
  by_cases h_addr : r.addr ≠ 0
  · rw [errR_bad ok hkn (fun hf => by cases hf <;> first | omega | (simp_all; done) | (simp_all; omega))]
    have H := chk_spl_addr w r.addr r.endp r.frame r.hub r.port r.kind xs.length r.comp r.low A c h_addr
    have e0 : pcells r = #[.int .u8 (r.pid : Int), .int .u8 (r.addr : Int), .int .u8 (r.endp : Int), .int .u16 (r.frame : Int), .int .u8 (r.hub : Int), .int .u8 (r.port : Int), .bool r.comp, .bool r.low, .int .u8 (r.kind : Int), r.data] := rfl
    rw [e0, hd, hp]
    exact H
  by_cases h_endp : r.endp ≠ 0
  · rw [errR_bad ok hkn (fun hf => by cases hf <;> first | omega | (simp_all; done) | (simp_all; omega))]
    have H := chk_spl_endp w r.endp r.frame r.hub r.port r.kind xs.length r.comp r.low A c h_endp
    have e0 : pcells r = #[.int .u8 (r.pid : Int), .int .u8 (r.addr : Int), .int .u8 (r.endp : Int), .int .u16 (r.frame : Int), .int .u8 (r.hub : Int), .int .u8 (r.port : Int), .bool r.comp, .bool r.low, .int .u8 (r.kind : Int), r.data] := rfl
    rw [e0, hd, hp, Decidable.not_not.1 h_addr]
    exact H
  by_cases h_frame : r.frame ≠ 0
  · rw [errR_bad ok hkn (fun hf => by cases hf <;> first | omega | (simp_all; done) | (simp_all; omega))]
    have H := chk_spl_frame w r.frame r.hub r.port r.kind xs.length r.comp r.low A c h_frame
    have e0 : pcells r = #[.int .u8 (r.pid : Int), .int .u8 (r.addr : Int), .int .u8 (r.endp : Int), .int .u16 (r.frame : Int), .int .u8 (r.hub : Int), .int .u8 (r.port : Int), .bool r.comp, .bool r.low, .int .u8 (r.kind : Int), r.data] := rfl
    rw [e0, hd, hp, Decidable.not_not.1 h_addr, Decidable.not_not.1 h_endp]
    exact H
  by_cases h_hub : 127 < r.hub
  · rw [errR_bad ok hkn (fun hf => by cases hf <;> first | omega | (simp_all; done) | (simp_all; omega))]
    have H := chk_spl_hub w r.hub r.port r.kind xs.length r.comp r.low A c h_hub
    have e0 : pcells r = #[.int .u8 (r.pid : Int), .int .u8 (r.addr : Int), .int .u8 (r.endp : Int), .int .u16 (r.frame : Int), .int .u8 (r.hub : Int), .int .u8 (r.port : Int), .bool r.comp, .bool r.low, .int .u8 (r.kind : Int), r.data] := rfl
    rw [e0, hd, hp, Decidable.not_not.1 h_addr, Decidable.not_not.1 h_endp, Decidable.not_not.1 h_frame]
    exact H
  by_cases h_port : 127 < r.port
  · rw [errR_bad ok hkn (fun hf => by cases hf <;> first | omega | (simp_all; done) | (simp_all; omega))]
    have H := chk_spl_port w r.hub r.port r.kind xs.length r.comp r.low A c (by omega) h_port
    have e0 : pcells r = #[.int .u8 (r.pid : Int), .int .u8 (r.addr : Int), .int .u8 (r.endp : Int), .int .u16 (r.frame : Int), .int .u8 (r.hub : Int), .int .u8 (r.port : Int), .bool r.comp, .bool r.low, .int .u8 (r.kind : Int), r.data] := rfl
    rw [e0, hd, hp, Decidable.not_not.1 h_addr, Decidable.not_not.1 h_endp, Decidable.not_not.1 h_frame]
    exact H
  by_cases h_kind : 3 < r.kind
  · rw [errR_bad ok hkn (fun hf => by cases hf <;> first | omega | (simp_all; done) | (simp_all; omega))]
    have H := chk_spl_kind w r.hub r.port r.kind xs.length r.comp r.low A c (by omega) (by omega) h_kind
    have e0 : pcells r = #[.int .u8 (r.pid : Int), .int .u8 (r.addr : Int), .int .u8 (r.endp : Int), .int .u16 (r.frame : Int), .int .u8 (r.hub : Int), .int .u8 (r.port : Int), .bool r.comp, .bool r.low, .int .u8 (r.kind : Int), r.data] := rfl
    rw [e0, hd, hp, Decidable.not_not.1 h_addr, Decidable.not_not.1 h_endp, Decidable.not_not.1 h_frame]
    exact H
  by_cases h_len : xs.length ≠ 0
  · rw [errR_bad ok hkn (fun hf => by cases hf <;> first | omega | (simp_all; done) | (simp_all; omega))]
    have H := chk_spl_len w r.hub r.port r.kind xs.length r.comp r.low A c (by omega) (by omega) (by omega) h_len
    have e0 : pcells r = #[.int .u8 (r.pid : Int), .int .u8 (r.addr : Int), .int .u8 (r.endp : Int), .int .u16 (r.frame : Int), .int .u8 (r.hub : Int), .int .u8 (r.port : Int), .bool r.comp, .bool r.low, .int .u8 (r.kind : Int), r.data] := rfl
    rw [e0, hd, hp, Decidable.not_not.1 h_addr, Decidable.not_not.1 h_endp, Decidable.not_not.1 h_frame]
    exact H
  rw [errR_ok ok hkn (.split hp (Decidable.not_not.1 h_addr) (Decidable.not_not.1 h_endp) (Decidable.not_not.1 h_frame) (by omega) (by omega) (by omega) (List.eq_nil_of_length_eq_zero (Decidable.not_not.1 h_len))) (by omega)]
  have H := chk_spl_ok w r.hub r.port r.kind r.comp r.low A c (by omega) (by omega) (by omega)
  have e0 : pcells r = #[.int .u8 (r.pid : Int), .int .u8 (r.addr : Int), .int .u8 (r.endp : Int), .int .u16 (r.frame : Int), .int .u8 (r.hub : Int), .int .u8 (r.port : Int), .bool r.comp, .bool r.low, .int .u8 (r.kind : Int), r.data] := rfl
  rw [e0, hd, hp, Decidable.not_not.1 h_addr, Decidable.not_not.1 h_endp, Decidable.not_not.1 h_frame, Decidable.not_not.1 h_len]
  exact H
set_option maxRecDepth 100000 in
theorem chkR_dat (w : World) (r : Rg) (ok : r.Ok) (hp : r.pid = 3 ∨ r.pid = 11) (A : Option Addr) (c : Nat) (xs : List UInt8) (hd : r.data = .slice A xs.length c) : Calls Tryz.prog 42 #[.agg (pcells r)] w (ResI w (errR r xs)) := by
  have hkn : known r.pid = true := by rcases hp with h | h <;> rw [h] <;> rfl
  have ht : (r.pid == 1 || r.pid == 9 || r.pid == 13) = false := by rcases hp with h | h <;> rw [h] <;> rfl
  have hdt : (r.pid == 3 || r.pid == 11) = true := by rcases hp with h | h <;> rw [h] <;> rfl
  have h5 : r.pid ≠ 5 := by omega
  have h8 : r.pid ≠ 8 := by omega
  by_cases h_addr : r.addr ≠ 0
  · rw [errR_bad ok hkn (fun hf => by cases hf <;> first | omega | (simp_all; done) | (simp_all; omega))]
    have H := chk_dat_addr w r.pid r.addr r.endp r.frame r.hub r.port r.kind xs.length r.comp r.low A c hkn ht hdt h5 h8 h_addr
    have e0 : pcells r = #[.int .u8 (r.pid : Int), .int .u8 (r.addr : Int), .int .u8 (r.endp : Int), .int .u16 (r.frame : Int), .int .u8 (r.hub : Int), .int .u8 (r.port : Int), .bool r.comp, .bool r.low, .int .u8 (r.kind : Int), r.data] := rfl
    rw [e0, hd]
    exact H
  by_cases h_endp : r.endp ≠ 0
  · rw [errR_bad ok hkn (fun hf => by cases hf <;> first | omega | (simp_all; done) | (simp_all; omega))]
    have H := chk_dat_endp w r.pid r.endp r.frame r.hub r.port r.kind xs.length r.comp r.low A c hkn ht hdt h5 h8 h_endp
    have e0 : pcells r = #[.int .u8 (r.pid : Int), .int .u8 (r.addr : Int), .int .u8 (r.endp : Int), .int .u16 (r.frame : Int), .int .u8 (r.hub : Int), .int .u8 (r.port : Int), .bool r.comp, .bool r.low, .int .u8 (r.kind : Int), r.data] := rfl
    rw [e0, hd, Decidable.not_not.1 h_addr]
    exact H
  by_cases h_frame : r.frame ≠ 0
  · rw [errR_bad ok hkn (fun hf => by cases hf <;> first | omega | (simp_all; done) | (simp_all; omega))]
    have H := chk_dat_frame w r.pid r.frame r.hub r.port r.kind xs.length r.comp r.low A c hkn ht hdt h5 h8 h_frame
    have e0 : pcells r = #[.int .u8 (r.pid : Int), .int .u8 (r.addr : Int), .int .u8 (r.endp : Int), .int .u16 (r.frame : Int), .int .u8 (r.hub : Int), .int .u8 (r.port : Int), .bool r.comp, .bool r.low, .int .u8 (r.kind : Int), r.data] := rfl
    rw [e0, hd, Decidable.not_not.1 h_addr, Decidable.not_not.1 h_endp]
    exact H
  by_cases h_hub : r.hub ≠ 0
  · rw [errR_bad ok hkn (fun hf => by cases hf <;> first | omega | (simp_all; done) | (simp_all; omega))]
    have H := chk_dat_hub w r.pid r.hub r.port r.kind xs.length r.comp r.low A c hkn ht hdt h5 h8 h_hub
    have e0 : pcells r = #[.int .u8 (r.pid : Int), .int .u8 (r.addr : Int), .int .u8 (r.endp : Int), .int .u16 (r.frame : Int), .int .u8 (r.hub : Int), .int .u8 (r.port : Int), .bool r.comp, .bool r.low, .int .u8 (r.kind : Int), r.data] := rfl
    rw [e0, hd, Decidable.not_not.1 h_addr, Decidable.not_not.1 h_endp, Decidable.not_not.1 h_frame]
    exact H
  by_cases h_port : r.port ≠ 0
  · rw [errR_bad ok hkn (fun hf => by cases hf <;> first | omega | (simp_all; done) | (simp_all; omega))]
    have H := chk_dat_port w r.pid r.port r.kind xs.length r.comp r.low A c hkn ht hdt h5 h8 h_port
    have e0 : pcells r = #[.int .u8 (r.pid : Int), .int .u8 (r.addr : Int), .int .u8 (r.endp : Int), .int .u16 (r.frame : Int), .int .u8 (r.hub : Int), .int .u8 (r.port : Int), .bool r.comp, .bool r.low, .int .u8 (r.kind : Int), r.data] := rfl
    rw [e0, hd, Decidable.not_not.1 h_addr, Decidable.not_not.1 h_endp, Decidable.not_not.1 h_frame, Decidable.not_not.1 h_hub]
    exact H
  by_cases h_comp : r.comp = true
  · rw [errR_bad ok hkn (fun hf => by cases hf <;> first | omega | (simp_all; done) | (simp_all; omega))]
    have H := chk_dat_comp w r.pid r.kind xs.length r.low A c hkn ht hdt h5 h8
    have e0 : pcells r = #[.int .u8 (r.pid : Int), .int .u8 (r.addr : Int), .int .u8 (r.endp : Int), .int .u16 (r.frame : Int), .int .u8 (r.hub : Int), .int .u8 (r.port : Int), .bool r.comp, .bool r.low, .int .u8 (r.kind : Int), r.data] := rfl
    rw [e0, hd, Decidable.not_not.1 h_addr, Decidable.not_not.1 h_endp, Decidable.not_not.1 h_frame, Decidable.not_not.1 h_hub, Decidable.not_not.1 h_port, h_comp]
    exact H
  by_cases h_low : r.low = true
  · rw [errR_bad ok hkn (fun hf => by cases hf <;> first | omega | (simp_all; done) | (simp_all; omega))]
    have H := chk_dat_low w r.pid r.kind xs.length A c hkn ht hdt h5 h8
    have e0 : pcells r = #[.int .u8 (r.pid : Int), .int .u8 (r.addr : Int), .int .u8 (r.endp : Int), .int .u16 (r.frame : Int), .int .u8 (r.hub : Int), .int .u8 (r.port : Int), .bool r.comp, .bool r.low, .int .u8 (r.kind : Int), r.data] := rfl
    rw [e0, hd, Decidable.not_not.1 h_addr, Decidable.not_not.1 h_endp, Decidable.not_not.1 h_frame, Decidable.not_not.1 h_hub, Decidable.not_not.1 h_port, Bool.eq_false_iff.2 h_comp, h_low]
    exact H
  by_cases h_kind : r.kind ≠ 0
  · rw [errR_bad ok hkn (fun hf => by cases hf <;> first | omega | (simp_all; done) | (simp_all; omega))]
    have H := chk_dat_kind w r.pid r.kind xs.length A c hkn ht hdt h5 h8 h_kind
    have e0 : pcells r = #[.int .u8 (r.pid : Int), .int .u8 (r.addr : Int), .int .u8 (r.endp : Int), .int .u16 (r.frame : Int), .int .u8 (r.hub : Int), .int .u8 (r.port : Int), .bool r.comp, .bool r.low, .int .u8 (r.kind : Int), r.data] := rfl
    rw [e0, hd, Decidable.not_not.1 h_addr, Decidable.not_not.1 h_endp, Decidable.not_not.1 h_frame, Decidable.not_not.1 h_hub, Decidable.not_not.1 h_port, Bool.eq_false_iff.2 h_comp, Bool.eq_false_iff.2 h_low]
    exact H
  by_cases h_len : 1024 < xs.length
  · rw [errR_long ok hkn (.data hp (Decidable.not_not.1 h_addr) (Decidable.not_not.1 h_endp) (Decidable.not_not.1 h_frame) (Decidable.not_not.1 h_hub) (Decidable.not_not.1 h_port) (Bool.eq_false_iff.2 h_comp) (Bool.eq_false_iff.2 h_low) (Decidable.not_not.1 h_kind)) h_len]
    have H := chk_dat_len w r.pid xs.length A c hkn ht hdt h5 h8 h_len
    have e0 : pcells r = #[.int .u8 (r.pid : Int), .int .u8 (r.addr : Int), .int .u8 (r.endp : Int), .int .u16 (r.frame : Int), .int .u8 (r.hub : Int), .int .u8 (r.port : Int), .bool r.comp, .bool r.low, .int .u8 (r.kind : Int), r.data] := rfl
    rw [e0, hd, Decidable.not_not.1 h_addr, Decidable.not_not.1 h_endp, Decidable.not_not.1 h_frame, Decidable.not_not.1 h_hub, Decidable.not_not.1 h_port, Bool.eq_false_iff.2 h_comp, Bool.eq_false_iff.2 h_low, Decidable.not_not.1 h_kind]
    exact H
  rw [errR_ok ok hkn (.data hp (Decidable.not_not.1 h_addr) (Decidable.not_not.1 h_endp) (Decidable.not_not.1 h_frame) (Decidable.not_not.1 h_hub) (Decidable.not_not.1 h_port) (Bool.eq_false_iff.2 h_comp) (Bool.eq_false_iff.2 h_low) (Decidable.not_not.1 h_kind)) (by omega)]
  have H := chk_dat_ok w r.pid xs.length A c hkn ht hdt h5 h8 (by omega)
  have e0 : pcells r = #[.int .u8 (r.pid : Int), .int .u8 (r.addr : Int), .int .u8 (r.endp : Int), .int .u16 (r.frame : Int), .int .u8 (r.hub : Int), .int .u8 (r.port : Int), .bool r.comp, .bool r.low, .int .u8 (r.kind : Int), r.data] := rfl
  rw [e0, hd, Decidable.not_not.1 h_addr, Decidable.not_not.1 h_endp, Decidable.not_not.1 h_frame, Decidable.not_not.1 h_hub, Decidable.not_not.1 h_port, Bool.eq_false_iff.2 h_comp, Bool.eq_false_iff.2 h_low, Decidable.not_not.1 h_kind]
  exact H
set_option maxRecDepth 100000 in
theorem chkR_bar (w : World) (r : Rg) (ok : r.Ok) (hp : r.pid = 2 ∨ r.pid = 6 ∨ r.pid = 10 ∨ r.pid = 14) (A : Option Addr) (c : Nat) (xs : List UInt8) (hd : r.data = .slice A xs.length c) : Calls Tryz.prog 42 #[.agg (pcells r)] w (ResI w (errR r xs)) := by
  have hkn : known r.pid = true := by rcases hp with h | h | h | h <;> rw [h] <;> rfl
  have ht : (r.pid == 1 || r.pid == 9 || r.pid == 13) = false := by rcases hp with h | h | h | h <;> rw [h] <;> rfl
  have hdt : (r.pid == 3 || r.pid == 11) = false := by rcases hp with h | h | h | h <;> rw [h] <;> rfl
  have h5 : r.pid ≠ 5 := by omega
  have h8 : r.pid ≠ 8 := by omega
  by_cases h_addr : r.addr ≠ 0
  · rw [errR_bad ok hkn (fun hf => by cases hf <;> first | omega | (simp_all; done) | (simp_all; omega))]
    have H := chk_bar_addr w r.pid r.addr r.endp r.frame r.hub r.port r.kind xs.length r.comp r.low A c hkn ht hdt h5 h8 h_addr
    have e0 : pcells r = #[.int .u8 (r.pid : Int), .int .u8 (r.addr : Int), .int .u8 (r.endp : Int), .int .u16 (r.frame : Int), .int .u8 (r.hub : Int), .int .u8 (r.port : Int), .bool r.comp, .bool r.low, .int .u8 (r.kind : Int), r.data] := rfl
    rw [e0, hd]
    exact H
  by_cases h_endp : r.endp ≠ 0
  · rw [errR_bad ok hkn (fun hf => by cases hf <;> first | omega | (simp_all; done) | (simp_all; omega))]
    have H := chk_bar_endp w r.pid r.endp r.frame r.hub r.port r.kind xs.length r.comp r.low A c hkn ht hdt h5 h8 h_endp
    have e0 : pcells r = #[.int .u8 (r.pid : Int), .int .u8 (r.addr : Int), .int .u8 (r.endp : Int), .int .u16 (r.frame : Int), .int .u8 (r.hub : Int), .int .u8 (r.port : Int), .bool r.comp, .bool r.low, .int .u8 (r.kind : Int), r.data] := rfl
    rw [e0, hd, Decidable.not_not.1 h_addr]
    exact H
  by_cases h_frame : r.frame ≠ 0
  · rw [errR_bad ok hkn (fun hf => by cases hf <;> first | omega | (simp_all; done) | (simp_all; omega))]
    have H := chk_bar_frame w r.pid r.frame r.hub r.port r.kind xs.length r.comp r.low A c hkn ht hdt h5 h8 h_frame
    have e0 : pcells r = #[.int .u8 (r.pid : Int), .int .u8 (r.addr : Int), .int .u8 (r.endp : Int), .int .u16 (r.frame : Int), .int .u8 (r.hub : Int), .int .u8 (r.port : Int), .bool r.comp, .bool r.low, .int .u8 (r.kind : Int), r.data] := rfl
    rw [e0, hd, Decidable.not_not.1 h_addr, Decidable.not_not.1 h_endp]
    exact H
  by_cases h_hub : r.hub ≠ 0
  · rw [errR_bad ok hkn (fun hf => by cases hf <;> first | omega | (simp_all; done) | (simp_all; omega))]
    have H := chk_bar_hub w r.pid r.hub r.port r.kind xs.length r.comp r.low A c hkn ht hdt h5 h8 h_hub
    have e0 : pcells r = #[.int .u8 (r.pid : Int), .int .u8 (r.addr : Int), .int .u8 (r.endp : Int), .int .u16 (r.frame : Int), .int .u8 (r.hub : Int), .int .u8 (r.port : Int), .bool r.comp, .bool r.low, .int .u8 (r.kind : Int), r.data] := rfl
    rw [e0, hd, Decidable.not_not.1 h_addr, Decidable.not_not.1 h_endp, Decidable.not_not.1 h_frame]
    exact H
  by_cases h_port : r.port ≠ 0
  · rw [errR_bad ok hkn (fun hf => by cases hf <;> first | omega | (simp_all; done) | (simp_all; omega))]
    have H := chk_bar_port w r.pid r.port r.kind xs.length r.comp r.low A c hkn ht hdt h5 h8 h_port
    have e0 : pcells r = #[.int .u8 (r.pid : Int), .int .u8 (r.addr : Int), .int .u8 (r.endp : Int), .int .u16 (r.frame : Int), .int .u8 (r.hub : Int), .int .u8 (r.port : Int), .bool r.comp, .bool r.low, .int .u8 (r.kind : Int), r.data] := rfl
    rw [e0, hd, Decidable.not_not.1 h_addr, Decidable.not_not.1 h_endp, Decidable.not_not.1 h_frame, Decidable.not_not.1 h_hub]
    exact H
  by_cases h_comp : r.comp = true
  · rw [errR_bad ok hkn (fun hf => by cases hf <;> first | omega | (simp_all; done) | (simp_all; omega))]
    have H := chk_bar_comp w r.pid r.kind xs.length r.low A c hkn ht hdt h5 h8
    have e0 : pcells r = #[.int .u8 (r.pid : Int), .int .u8 (r.addr : Int), .int .u8 (r.endp : Int), .int .u16 (r.frame : Int), .int .u8 (r.hub : Int), .int .u8 (r.port : Int), .bool r.comp, .bool r.low, .int .u8 (r.kind : Int), r.data] := rfl
    rw [e0, hd, Decidable.not_not.1 h_addr, Decidable.not_not.1 h_endp, Decidable.not_not.1 h_frame, Decidable.not_not.1 h_hub, Decidable.not_not.1 h_port, h_comp]
    exact H
  by_cases h_low : r.low = true
  · rw [errR_bad ok hkn (fun hf => by cases hf <;> first | omega | (simp_all; done) | (simp_all; omega))]
    have H := chk_bar_low w r.pid r.kind xs.length A c hkn ht hdt h5 h8
    have e0 : pcells r = #[.int .u8 (r.pid : Int), .int .u8 (r.addr : Int), .int .u8 (r.endp : Int), .int .u16 (r.frame : Int), .int .u8 (r.hub : Int), .int .u8 (r.port : Int), .bool r.comp, .bool r.low, .int .u8 (r.kind : Int), r.data] := rfl
    rw [e0, hd, Decidable.not_not.1 h_addr, Decidable.not_not.1 h_endp, Decidable.not_not.1 h_frame, Decidable.not_not.1 h_hub, Decidable.not_not.1 h_port, Bool.eq_false_iff.2 h_comp, h_low]
    exact H
  by_cases h_kind : r.kind ≠ 0
  · rw [errR_bad ok hkn (fun hf => by cases hf <;> first | omega | (simp_all; done) | (simp_all; omega))]
    have H := chk_bar_kind w r.pid r.kind xs.length A c hkn ht hdt h5 h8 h_kind
    have e0 : pcells r = #[.int .u8 (r.pid : Int), .int .u8 (r.addr : Int), .int .u8 (r.endp : Int), .int .u16 (r.frame : Int), .int .u8 (r.hub : Int), .int .u8 (r.port : Int), .bool r.comp, .bool r.low, .int .u8 (r.kind : Int), r.data] := rfl
    rw [e0, hd, Decidable.not_not.1 h_addr, Decidable.not_not.1 h_endp, Decidable.not_not.1 h_frame, Decidable.not_not.1 h_hub, Decidable.not_not.1 h_port, Bool.eq_false_iff.2 h_comp, Bool.eq_false_iff.2 h_low]
    exact H
  by_cases h_len : xs.length ≠ 0
  · rw [errR_bad ok hkn (fun hf => by cases hf <;> first | omega | (simp_all; done) | (simp_all; omega))]
    have H := chk_bar_len w r.pid xs.length A c hkn ht hdt h5 h8 h_len
    have e0 : pcells r = #[.int .u8 (r.pid : Int), .int .u8 (r.addr : Int), .int .u8 (r.endp : Int), .int .u16 (r.frame : Int), .int .u8 (r.hub : Int), .int .u8 (r.port : Int), .bool r.comp, .bool r.low, .int .u8 (r.kind : Int), r.data] := rfl
    rw [e0, hd, Decidable.not_not.1 h_addr, Decidable.not_not.1 h_endp, Decidable.not_not.1 h_frame, Decidable.not_not.1 h_hub, Decidable.not_not.1 h_port, Bool.eq_false_iff.2 h_comp, Bool.eq_false_iff.2 h_low, Decidable.not_not.1 h_kind]
    exact H
  rw [errR_ok ok hkn (.bare hp (Decidable.not_not.1 h_addr) (Decidable.not_not.1 h_endp) (Decidable.not_not.1 h_frame) (Decidable.not_not.1 h_hub) (Decidable.not_not.1 h_port) (Bool.eq_false_iff.2 h_comp) (Bool.eq_false_iff.2 h_low) (Decidable.not_not.1 h_kind) (List.eq_nil_of_length_eq_zero (Decidable.not_not.1 h_len))) (by omega)]
  have H := chk_bar_ok w r.pid A c hkn ht hdt h5 h8
  have e0 : pcells r = #[.int .u8 (r.pid : Int), .int .u8 (r.addr : Int), .int .u8 (r.endp : Int), .int .u16 (r.frame : Int), .int .u8 (r.hub : Int), .int .u8 (r.port : Int), .bool r.comp, .bool r.low, .int .u8 (r.kind : Int), r.data] := rfl
  rw [e0, hd, Decidable.not_not.1 h_addr, Decidable.not_not.1 h_endp, Decidable.not_not.1 h_frame, Decidable.not_not.1 h_hub, Decidable.not_not.1 h_port, Bool.eq_false_iff.2 h_comp, Bool.eq_false_iff.2 h_low, Decidable.not_not.1 h_kind, Decidable.not_not.1 h_len]
  exact H
theorem refCheck_any (w : World) (r : Rg) (ok : r.Ok) (A : Option Addr) (c : Nat) (xs : List UInt8) (hd : r.data = .slice A xs.length c) : Calls Tryz.prog 42 #[.agg (pcells r)] w (ResI w (errR r xs)) := by
  cases hk : known r.pid
  · rw [errR_no hk]
    exact chk_no w r.pid r.addr r.endp r.frame r.hub r.port r.kind r.comp r.low r.data hk
  · rcases known_cases hk with hp | hp | hp | hp | hp
    · exact chkR_tok w r ok hp A c xs hd
    · exact chkR_sof w r ok hp A c xs hd
    · exact chkR_spl w r ok hp A c xs hd
    · exact chkR_dat w r ok hp A c xs hd
    · exact chkR_bar w r ok hp A c xs hd

end Go.Proofs.YtgihpgdjkanodaaGreatDoor
