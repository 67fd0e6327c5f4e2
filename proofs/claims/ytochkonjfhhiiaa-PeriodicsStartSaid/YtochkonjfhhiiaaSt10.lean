/-
  Helper text: Start, for any plan; no statement is proved here.
-/
import Derived.Test.YtochkonjfhhiiaaBig
import Derived.Test.YtochkonjfhhiiaaOwnL
namespace Go.Proofs.Ytochkonjfhhiiaa
open Go Go.RowKit

abbrev planC (inn : Bool) (endp : Nat) (max : Int) (A : Option Addr) (n c : Nat) (many : Int) : Obj := .cells #[.bool inn, .int .u8 endp, .int .i64 max, .slice A n c, .int .i64 many] 42
theorem two_boxes (w : World) (a b : Obj) : ((w.alloc a).alloc b).heap[w.heap.size]? = some a ∧ ((w.alloc a).alloc b).heap[w.heap.size + 1]? = some b ∧ ((w.alloc a).alloc b).heap.size = w.heap.size + 2 ∧ Below w.heap.size w ((w.alloc a).alloc b) := by
  refine ⟨(Below.heap_alloc _ _ _ (by simp)).trans (heap_alloc_new w a), ?_, by simp, ((Below.refl _ w).alloc (Nat.le_refl _) a).alloc (by simp) b⟩
  have := heap_alloc_new (w.alloc a) b
  rwa [show (w.alloc a).heap.size = w.heap.size + 1 by simp] at this

set_option maxHeartbeats 1600000 in
theorem start10_bad (w : World) (inn : Bool) (endp : Nat) (max : Int) (A : Option Addr) (n c : Nat) (many : Int) (h : okF inn endp max n many = false) :
    Calls Try.prog 18 #[planP inn endp max A n c many] w fun e w' => e = .returned (.tuple #[.agg zeroT, .int .i64 1]) ∧ Below w.heap.size w w' := by
  have hc := fun W => cons10_any W inn endp max A n c many
  rw [h] at hc
  replace hc := Lib.hid hc
  clear h
  have hz := zeroT_run
  have hb0 := build0_run
  obtain ⟨b1, b2, b3, b4⟩ := two_boxes w (planC inn endp max A n c many) (.cells zeroT 50)
  replace b2 := Lib.hid b2
  replace b4 := Lib.hid b4
  clear b1
  go_enter Try.func18, Try.ntmps18
  go_wp2_with fail
  refine (hc.out _).mono ?_
  rintro e w1 ⟨rfl, hb1⟩
  have hQ1 := (hb1.block (w.heap.size + 1) (by simp)).trans b2.out
  have hB1 := b4.out.trans (hb1.mono (by simp; omega))
  have hs1 : w.heap.size + 2 ≤ w1.heap.size := by have := hb1.size; simp at this; omega
  clear hb1
  replace hB1 := Lib.hid hB1
  go_wp2_with (refine wpl_storeB flatT rfl (.tmp 2) (.tmp 10) rfl (w.heap.size + 1) rfl zeroT rfl hQ1 zeroT_size zeroT_size zeroT_one ?_; intro w2 hQ2 hg2 hs2)
  refine bodyPost_ret (ret_cell_tmp flatT rfl _ (w.heap.size + 1) rfl hQ2 zeroT_size) rfl ?_
  exact ⟨rfl, below_grown hB1.out hg2 (by omega) (by omega)⟩

set_option maxHeartbeats 3200000 in
theorem start10_lim (w : World) (inn : Bool) (endp : Nat) (max : Int) (A : Option Addr) (c : Nat) (ps : List (List UInt8)) (many : Int) (hr : Rds w w.heap.size A c ps) (h : okF inn endp max ps.length many = true) (hl : 256 < sizeF inn ps.length many ∨ (¬ 256 < sizeF inn ps.length many ∧ anyLong max ps = true)) :
    Calls Try.prog 18 #[planP inn endp max A ps.length c many] w fun e w' => e = .returned (.tuple #[.agg zeroT, .int .i64 3]) ∧ Below w.heap.size w w' := by
  have hc := fun W => cons10_any W inn endp max A ps.length c many
  rw [h] at hc
  replace hc := Lib.hid hc
  clear h
  have hz := zeroT_run
  have hb0 := build0_run
  obtain ⟨b1, b2, b3, b4⟩ := two_boxes w (planC inn endp max A ps.length c many) (.cells zeroT 50)
  replace b1 := Lib.hid b1
  replace b2 := Lib.hid b2
  replace b4 := Lib.hid b4
  go_enter Try.func18, Try.ntmps18
  go_wp2_with fail
  refine (hc.out _).mono ?_
  rintro e w1 ⟨rfl, hb1⟩
  have hQ1 := Lib.hid ((hb1.block (w.heap.size + 1) (by simp)).trans b2.out)
  have hP1 := (hb1.block w.heap.size (by simp; omega)).trans b1.out
  have c0 := block_at hP1 (i := 0) rfl
  have c2 := block_at hP1 (i := 2) rfl
  have c3 := block_at hP1 (i := 3) rfl
  have c4 := block_at hP1 (i := 4) rfl
  have hB1 := b4.out.trans (hb1.mono (by simp; omega))
  have hr1 := hr.belowTop hB1
  have hs1 : w.heap.size + 2 ≤ w1.heap.size := by have := hb1.size; simp at this; omega
  have KS := Lib.hid (size_any w1 w.heap.size inn A ps.length c many c0 c3 c4)
  have KC := Lib.hid (contains_any w1 w.heap.size max A c ps hr1 c2)
  clear hb1 hr1 hP1
  replace hB1 := Lib.hid hB1
  rcases hl with hl | ⟨hl, ha⟩
  · generalize sizeF inn ps.length many = sz at KS hl
    go_wp2_with fail
    refine KS.out.mono ?_
    rintro e w' ⟨rfl, e2⟩
    rw [e2]
    clear e2
    replace hQ1 := hQ1.out
    go_wp2_with (refine wpl_storeB flatT rfl (.tmp 2) (.tmp 20) rfl (w.heap.size + 1) rfl zeroT rfl hQ1 zeroT_size zeroT_size zeroT_one ?_; intro w2 hQ2 hg2 hs2)
    refine bodyPost_ret (ret_cell_tmp flatT rfl _ (w.heap.size + 1) rfl hQ2 zeroT_size) rfl ?_
    exact ⟨rfl, below_grown hB1.out hg2 (by omega) (by omega)⟩
  · generalize sizeF inn ps.length many = sz at KS hl
    rw [ha] at KC
    clear ha
    go_wp2_with fail
    refine KS.out.mono ?_
    rintro e w' ⟨rfl, e2⟩
    rw [e2]
    clear e2
    go_wp2_with fail
    refine KC.out.mono ?_
    rintro e w' ⟨rfl, e2⟩
    rw [e2]
    clear e2
    replace hQ1 := hQ1.out
    go_wp2_with (refine wpl_storeB flatT rfl (.tmp 2) (.tmp 20) rfl (w.heap.size + 1) rfl zeroT rfl hQ1 zeroT_size zeroT_size zeroT_one ?_; intro w2 hQ2 hg2 hs2)
    refine bodyPost_ret (ret_cell_tmp flatT rfl _ (w.heap.size + 1) rfl hQ2 zeroT_size) rfl ?_
    exact ⟨rfl, below_grown hB1.out hg2 (by omega) (by omega)⟩

theorem wpl_buildT {ops : Array Oper} {rest : List Oper} {o : Oper} {a : Act} {w : World} {Q : Exit → Act → World → Prop} (hgd : o.guard = none) (x : Operand) (ho : o.op = .build 50 #[(0, x)]) (v0 v1 v2 v3 v4 : Value) (hx : a.eval x = .agg #[v0, v1, v2, v3, v4])
    (h : wpList Try.prog ops Q rest (a.put o.dst (.agg (trC v0 v1 v2 v3 v4))) w) : wpList Try.prog ops Q (o :: rest) a w :=
  wpList_plain hgd fun K hK => by
    have hr := build1_run w v0 v1 v2 v3 v4
    unfold Oper.wp execOp
    simp only [ho, List.map_toArray, List.map_cons, List.map_nil, hx, Sem.run_bind, Sem.run_pure, hr, Result.andThen_ok]
    exact hK _ _ h

set_option maxHeartbeats 3200000 in
theorem start10_good (w : World) (inn : Bool) (endp : Nat) (max : Int) (A : Option Addr) (c : Nat) (ps : List (List UInt8)) (many : Int) (hr : Rds w w.heap.size A c ps) (h : okF inn endp max ps.length many = true) (hl : ¬ 256 < sizeF inn ps.length many) (ha : anyLong max ps = false) (hps : ps.length ≤ 100000) (hss : ∀ j, (ps.getD j []).length ≤ 1000000) :
    Calls Try.prog 18 #[planP inn endp max A ps.length c many] w fun e w' => ∃ g, e = .returned (.tuple #[.agg (trC (.bool inn) (.int .u8 endp) (.int .i64 max) (.slice (some ⟨g, 0, none⟩) ps.length ps.length) (.int .i64 many)), .int .i64 0]) ∧ Rds w' w'.heap.size (some ⟨g, 0, none⟩) ps.length ps ∧ Below w.heap.size w w' := by
  have hc := fun W => cons10_any W inn endp max A ps.length c many
  rw [h] at hc
  replace hc := Lib.hid hc
  clear h
  have hz := zeroT_run
  have hb0 := build0_run
  have hbu := build1_run
  obtain ⟨b1, b2, b3, b4⟩ := two_boxes w (planC inn endp max A ps.length c many) (.cells zeroT 50)
  replace b1 := Lib.hid b1
  replace b2 := Lib.hid b2
  replace b4 := Lib.hid b4
  clear b3
  go_enter Try.func18, Try.ntmps18
  go_wp2_with fail
  refine (hc.out _).mono ?_
  rintro e w1 ⟨rfl, hb1⟩
  have hQ1 := Lib.hid ((hb1.block (w.heap.size + 1) (by simp)).trans b2.out)
  have hP1 := (hb1.block w.heap.size (by simp; omega)).trans b1.out
  have c0 := block_at hP1 (i := 0) rfl
  have c2 := block_at hP1 (i := 2) rfl
  have c3 := block_at hP1 (i := 3) rfl
  have c4 := block_at hP1 (i := 4) rfl
  have hB1 := b4.out.trans (hb1.mono (by simp; omega))
  have hr1 := hr.belowTop hB1
  have hs1 : w.heap.size + 2 ≤ w1.heap.size := by have := hb1.size; simp at this; omega
  have KS := Lib.hid (size_any w1 w.heap.size inn A ps.length c many c0 c3 c4)
  have KC := Lib.hid (contains_any w1 w.heap.size max A c ps hr1 c2)
  have KO := Lib.hid (ownList_any w1 A c ps hr1 hps hss)
  clear hb1 hr1 hr
  replace hP1 := Lib.hid hP1
  replace hB1 := Lib.hid hB1
  generalize sizeF inn ps.length many = sz at KS hl
  rw [ha] at KC
  clear ha
  go_wp2_with fail
  refine KS.out.mono ?_
  rintro e w' ⟨rfl, e2⟩
  rw [e2]
  clear e2
  go_wp2_with fail
  refine KC.out.mono ?_
  rintro e w' ⟨rfl, e2⟩
  rw [e2]
  clear e2
  go_wp2_with fail
  refine KO.out.mono ?_
  rintro e w2 ⟨g, rfl, hrd, hb2⟩
  have hP2 := (hb2.block w.heap.size (by omega)).trans hP1.out
  have hQ2 := (hb2.block (w.heap.size + 1) (by omega)).trans hQ1.out
  have d0 := block_at hP2 (i := 0) rfl
  have d1 := block_at hP2 (i := 1) rfl
  have d2 := block_at hP2 (i := 2) rfl
  have d3 := block_at hP2 (i := 3) rfl
  have d4 := block_at hP2 (i := 4) rfl
  have df := block_free hP2 3
  have hB2 := hB1.out.trans (hb2.mono (by omega))
  have hQ3 : (w2.setCell ⟨w.heap.size, 3, none⟩ (.slice (some ⟨g, 0, none⟩) ps.length ps.length)).heap[w.heap.size + 1]? = some (.cells zeroT 50 (0, 0)) := (Below.heap_setCell _ _ _ _ (by simp)).trans hQ2
  have hB3 : Below w.heap.size w (w2.setCell ⟨w.heap.size, 3, none⟩ (.slice (some ⟨g, 0, none⟩) ps.length ps.length)) := hB2.setCell (p := ⟨w.heap.size, 3, none⟩) (Nat.le_refl _) _
  have hs2 : w.heap.size + 2 ≤ w2.heap.size := Nat.le_trans hs1 hb2.size
  have hfk : ∀ b, w1.heap.size ≤ b → b < w2.heap.size → (w2.setCell ⟨w.heap.size, 3, none⟩ (.slice (some ⟨g, 0, none⟩) ps.length ps.length)).heap[b]? = w2.heap[b]? := fun b hb _ => Below.heap_setCell _ _ _ _ (by intro e; have e : b = w.heap.size := e; omega)
  replace hrd := Lib.hid hrd
  replace hfk := Lib.hid hfk
  replace hB3 := Lib.hid hB3
  replace hB2 := Lib.hid hB2
  clear hb2 hQ2 hP2
  go_wp2_with (first
    | (refine wpl_buildT rfl (.tmp 25) rfl _ _ _ _ _ rfl ?_)
    | (refine wpl_storeB flatT rfl (.tmp 2) (.tmp 26) rfl (w.heap.size + 1) rfl (trC (.bool inn) (.int .u8 endp) (.int .i64 max) (.slice (some ⟨g, 0, none⟩) ps.length ps.length) (.int .i64 many)) rfl hQ3 (trC_size _ _ _ _ _) zeroT_size (trC_one _ _ _ _ _ _ _) ?_; intro w3 hQ4 hg3 hs3))
  refine bodyPost_ret (ret_cell_tmp flatT rfl _ (w.heap.size + 1) rfl hQ4 (trC_size _ _ _ _ _)) rfl ?_
  refine ⟨g, rfl, hrd.out.rdsKeep (by omega) hss fun b h1 h2 => ?_, below_grown hB3.out hg3 (by simp; omega) (by omega)⟩
  exact (hg3.block b (by simp; omega) (by intro e; injection e with e; omega)).trans (hfk.out b h1 h2)
end Go.Proofs.Ytochkonjfhhiiaa
