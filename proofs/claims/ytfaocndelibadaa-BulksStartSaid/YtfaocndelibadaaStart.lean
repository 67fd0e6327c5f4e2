/-
  Helper text: Start, for any plan; no statement is proved here.
-/
import Derived.Test.YtfaocndelibadaaCs
import Derived.Test.YtfaocndelibadaaOwn
namespace Go.Proofs.Ytfaocndelibadaa
open Go Go.RowKit Go.Shelf
attribute [local go_sem] Oper.semAt_some

/-- A transfer. -/
abbrev trV (inn : Bool) (endp : Nat) (max len : Int) (A : Option Addr) (n c : Nat) (R : Option Addr) (tog : Bool) (act mis : Int) (over : Bool) (e : Int) : Value := .agg #[.bool inn, .int .u8 endp, .int .i64 max, .int .i64 len, .slice A n c, .pointer R, .bool tog, .int .i64 act, .int .i64 mis, .bool over, .int .i64 e]
abbrev trZ : Value := trV false 0 0 0 none 0 0 none false 0 0 false 0

theorem results_cell_row_tmp {fn : Func} {P : Program} {p u : Tmp} {ty : TypeId} (h : fn.results = #[.cell p ty, .tmp u]) (tmps : Array Value) (w : World) (g : Nat) (t : TypeId) (cs : Array Value) (fr : Nat × Nat) (d : TypeDesc)
    (hp : tmps.getD p undef = .pointer (some ⟨g, 0, none⟩)) (hg : w.heap[g]? = some (.cells cs t fr))
    (hu : P.underlying ty = some d) (hd : (match d with | .struct _ | .array _ _ => true | _ => false) = true) (hi : (P.info? ty).map (·.size) = some cs.size) :
    (results fn tmps).run P w = .ok (.tuple #[.agg cs, tmps.getD u undef]) w := by
  have hp' : tmps[p]?.getD undef = .pointer (some ⟨g, 0, none⟩) := by simpa using hp
  rw [results_cell_tmp h]
  simp [hp', asAddr, run_loadVar_row w g t ty cs fr d hg hu hd hi, Result.andThen]
theorem heap3 (w : World) (a b c : Obj) : (((w.alloc a).alloc b).alloc c).heap[w.heap.size + 1]? = some b := by
  exact (Below.heap_alloc ((w.alloc a).alloc b) c (w.heap.size + 1) (by simp)).trans (heap_alloc2_new w a b)
theorem heapN {w : World} {g : Nat} {b : Option Obj} (h : w.heap[g]? = b) (c : Obj) (hg : g < w.heap.size) : (w.alloc c).heap[g]? = b := (Below.heap_alloc w c g hg).trans h
theorem end_any (w : World) (inn : Bool) (endp : Nat) (max len : Int) (A : Option Addr) (n c : Nat) (R : Option Addr) (tog : Bool) (act mis : Int) (over : Bool) (e0 e : Int) :
    Calls Try.prog 30 #[trV inn endp max len A n c R tog act mis over e0, .int .i64 e] w fun r w' => r = .returned (trV inn endp max len A n c R tog act mis true e) ∧ w' = (w.alloc (.cells #[.bool inn, .int .u8 endp, .int .i64 max, .int .i64 len, .slice A n c, .pointer R, .bool tog, .int .i64 act, .int .i64 mis, .bool true, .int .i64 e] 42)).alloc (.cells #[.bool inn, .int .u8 endp, .int .i64 max, .int .i64 len, .slice A n c, .pointer R, .bool tog, .int .i64 act, .int .i64 mis, .bool true, .int .i64 e] 42) := by
  go_enter Try.func30, Try.ntmps30
  go_wp2
  refine bodyPost_ret (results_cell_row rfl _ _ (w.heap.size + 1) _ _ _ _ rfl (heap_alloc2_new w _ _) Try.underlying42 rfl (by kernel_rfl)) rfl ?_
  exact ⟨rfl, rfl⟩

set_option maxHeartbeats 2000000 in
theorem start1 (w : World) (inn zero : Bool) (endp : Nat) (max : Int) (tog : Bool) (A : Option Addr) (n c : Nat) (len : Int) (h1 : okP inn endp max n zero len = false) :
    Calls Try.prog 13 #[planV inn endp max tog A n c zero len] w fun r w' => r = .returned (.tuple #[trZ, .int .i64 1]) ∧ Below w.heap.size w w' := by
  have hc := fun (W : World) => cons_any W inn endp max tog A n c zero len
  rw [h1] at hc
  have hc := Lib.hid hc
  clear h1
  go_enter Try.func13, Try.ntmps13
  go_wp2_with (first
    | (go_at_call 28; refine (hc.out _).mono ?_; rintro r w1 ⟨rfl, rfl⟩)
    | (go_at_call 30; refine (end_any _ _ _ _ _ _ _ _ _ _ _ _ _ _ _).mono ?_; rintro r w1 ⟨rfl, rfl⟩))
  refine bodyPost_ret (results_cell_row_tmp rfl _ _ (w.heap.size + 1) _ _ _ _ rfl (heap3 w _ _ _) Try.underlying42 rfl (by kernel_rfl)) rfl ?_
  exact ⟨rfl, (((Below.refl _ w).alloc (Nat.le_refl _) _).alloc (by first | (simp; done) | (simp; omega)) _).alloc (by first | (simp; done) | (simp; omega)) _⟩
set_option maxHeartbeats 2000000 in
theorem start2 (w : World) (inn zero : Bool) (endp : Nat) (max : Int) (tog : Bool) (A : Option Addr) (n c : Nat) (len : Int) (h1 : okP inn endp max n zero len = true) (h2 : 65536 < (n : Int)) :
    Calls Try.prog 13 #[planV inn endp max tog A n c zero len] w fun r w' => r = .returned (.tuple #[trZ, .int .i64 3]) ∧ Below w.heap.size w w' := by
  have hc := fun (W : World) => cons_any W inn endp max tog A n c zero len
  rw [h1] at hc
  have hc := Lib.hid hc
  clear h1
  go_enter Try.func13, Try.ntmps13
  go_wp2_with (first
    | (go_at_call 28; refine (hc.out _).mono ?_; rintro r w1 ⟨rfl, rfl⟩)
    | (go_at_call 30; refine (end_any _ _ _ _ _ _ _ _ _ _ _ _ _ _ _).mono ?_; rintro r w1 ⟨rfl, rfl⟩))
  refine bodyPost_ret (results_cell_row_tmp rfl _ _ (w.heap.size + 1) _ _ _ _ rfl (heap3 w _ _ _) Try.underlying42 rfl (by kernel_rfl)) rfl ?_
  exact ⟨rfl, (((Below.refl _ w).alloc (Nat.le_refl _) _).alloc (by first | (simp; done) | (simp; omega)) _).alloc (by first | (simp; done) | (simp; omega)) _⟩
set_option maxHeartbeats 2000000 in
theorem start3 (w : World) (inn zero : Bool) (endp : Nat) (max : Int) (tog : Bool) (A : Option Addr) (n c : Nat) (len : Int) (h1 : okP inn endp max n zero len = true) (h2 : ¬ 65536 < (n : Int)) (h3 : 65536 < len) :
    Calls Try.prog 13 #[planV inn endp max tog A n c zero len] w fun r w' => r = .returned (.tuple #[trZ, .int .i64 3]) ∧ Below w.heap.size w w' := by
  have hc := fun (W : World) => cons_any W inn endp max tog A n c zero len
  rw [h1] at hc
  have hc := Lib.hid hc
  clear h1
  go_enter Try.func13, Try.ntmps13
  go_wp2_with (first
    | (go_at_call 28; refine (hc.out _).mono ?_; rintro r w1 ⟨rfl, rfl⟩)
    | (go_at_call 30; refine (end_any _ _ _ _ _ _ _ _ _ _ _ _ _ _ _).mono ?_; rintro r w1 ⟨rfl, rfl⟩))
  refine bodyPost_ret (results_cell_row_tmp rfl _ _ (w.heap.size + 1) _ _ _ _ rfl (heap3 w _ _ _) Try.underlying42 rfl (by kernel_rfl)) rfl ?_
  exact ⟨rfl, (((Below.refl _ w).alloc (Nat.le_refl _) _).alloc (by first | (simp; done) | (simp; omega)) _).alloc (by first | (simp; done) | (simp; omega)) _⟩
set_option maxHeartbeats 2000000 in
theorem start4 (w : World) (endp : Nat) (max : Int) (tog : Bool) (A : Option Addr) (n c : Nat) (h1 : okP true endp max n false 0 = true) (h2 : ¬ 65536 < (n : Int)) :
    Calls Try.prog 13 #[planV true endp max tog A n c false 0] w fun r w' => r = .returned (.tuple #[(trV true endp max 0 none 0 0 none tog 0 0 true 0), .int .i64 0]) ∧ Below w.heap.size w w' := by
  have hc := fun (W : World) => cons_any W true endp max tog A n c false 0
  rw [h1] at hc
  have hc := Lib.hid hc
  clear h1
  go_enter Try.func13, Try.ntmps13
  go_wp2_with (first
    | (go_at_call 28; refine (hc.out _).mono ?_; rintro r w1 ⟨rfl, rfl⟩)
    | (go_at_call 30; refine (end_any _ _ _ _ _ _ _ _ _ _ _ _ _ _ _).mono ?_; rintro r w1 ⟨rfl, rfl⟩))
  refine bodyPost_ret (results_cell_row_tmp rfl _ _ (w.heap.size + 1) _ _ _ _ rfl (heapN (heapN (heapN (heap3 w _ _ _) _ (by first | (simp; done) | (simp; omega))) _ (by first | (simp; done) | (simp; omega))) _ (by first | (simp; done) | (simp; omega))) Try.underlying42 rfl (by kernel_rfl)) rfl ?_
  exact ⟨rfl, ((((((Below.refl _ w).alloc (Nat.le_refl _) _).alloc (by first | (simp; done) | (simp; omega)) _).alloc (by first | (simp; done) | (simp; omega)) _).alloc (by first | (simp; done) | (simp; omega)) _).alloc (by first | (simp; done) | (simp; omega)) _).alloc (by first | (simp; done) | (simp; omega)) _⟩
set_option maxHeartbeats 2000000 in
theorem start5 (w : World) (endp : Nat) (max : Int) (tog : Bool) (A : Option Addr) (n c : Nat) (len : Int) (h1 : okP true endp max n false len = true) (h2 : ¬ 65536 < (n : Int)) (h3 : ¬ 65536 < len) (h4 : ¬ len = 0) :
    Calls Try.prog 13 #[planV true endp max tog A n c false len] w fun r w' => r = .returned (.tuple #[(trV true endp max len none 0 0 none tog 0 0 false 0), .int .i64 0]) ∧ Below w.heap.size w w' := by
  have hc := fun (W : World) => cons_any W true endp max tog A n c false len
  rw [h1] at hc
  have hc := Lib.hid hc
  clear h1
  go_enter Try.func13, Try.ntmps13
  go_wp2_with (first
    | (go_at_call 28; refine (hc.out _).mono ?_; rintro r w1 ⟨rfl, rfl⟩)
    | (go_at_call 30; refine (end_any _ _ _ _ _ _ _ _ _ _ _ _ _ _ _).mono ?_; rintro r w1 ⟨rfl, rfl⟩))
  refine bodyPost_ret (results_cell_row_tmp rfl _ _ (w.heap.size + 1) _ _ _ _ rfl (heapN (heap3 w _ _ _) _ (by first | (simp; done) | (simp; omega))) Try.underlying42 rfl (by kernel_rfl)) rfl ?_
  exact ⟨rfl, ((((Below.refl _ w).alloc (Nat.le_refl _) _).alloc (by first | (simp; done) | (simp; omega)) _).alloc (by first | (simp; done) | (simp; omega)) _).alloc (by first | (simp; done) | (simp; omega)) _⟩
end Go.Proofs.Ytfaocndelibadaa
