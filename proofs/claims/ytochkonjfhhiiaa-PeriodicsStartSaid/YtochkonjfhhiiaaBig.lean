/-
  Helper text: transfers as values of 518 cells, whole; no statement is proved here.
-/
import Derived.Test.YtochkonjfhhiiaaErr10
import Derived.Laws.Tables
import Derived.Laws.Rows
namespace Go.Proofs.Ytochkonjfhhiiaa
open Go Go.RowKit

/-- The cells of a zero transfer. -/
def zeroT : Array Value := ⟨[.bool false, .int .u8 0, .int .i64 0, .slice none 0 0, .int .i64 0, .int .i64 0] ++ (List.replicate 256 [.int .i64 0, .slice none 0 0]).flatten⟩
/-- The cells of a new transfer. -/
def trC (v0 v1 v2 v3 v4 : Value) : Array Value := ⟨[v0, v1, v2, v3, v4, .int .i64 0] ++ (List.replicate 256 [.int .i64 0, .slice none 0 0]).flatten⟩
set_option maxRecDepth 100000 in
theorem zeroT_run (w : World) : (zeroValue 50).run Try.prog w = .ok (.agg zeroT) w := by kernel_rfl
set_option maxRecDepth 100000 in
theorem zeroT_size : zeroT.size = 518 := by decide +kernel
set_option maxRecDepth 100000 in
theorem trC_size (v0 v1 v2 v3 v4 : Value) : (trC v0 v1 v2 v3 v4).size = 518 := by kernel_rfl
set_option maxRecDepth 100000 in
theorem build0_run (w : World) : (Instr.build 50 #[]).run Try.prog w = .ok (.agg zeroT) w := by kernel_rfl
set_option maxRecDepth 100000 in
theorem build1_run (w : World) (v0 v1 v2 v3 v4 : Value) : (Instr.build 50 #[(0, .agg #[v0, v1, v2, v3, v4])]).run Try.prog w = .ok (.agg (trC v0 v1 v2 v3 v4)) w := by kernel_rfl
theorem trC_one (inn : Bool) (endp max : Int) (A : Option Addr) (n c : Nat) (many : Int) : (trC (.bool inn) (.int .u8 endp) (.int .i64 max) (.slice A n c) (.int .i64 many)).toList.all (·.oneCell') = true := by kernel_rfl
theorem zeroT_one : zeroT.toList.all (·.oneCell') = true := by decide +kernel
theorem trC_at0 (v0 v1 v2 v3 v4 : Value) : (trC v0 v1 v2 v3 v4)[0]? = some v0 := by kernel_rfl
theorem trC_at1 (v0 v1 v2 v3 v4 : Value) : (trC v0 v1 v2 v3 v4)[1]? = some v1 := by kernel_rfl
theorem trC_at2 (v0 v1 v2 v3 v4 : Value) : (trC v0 v1 v2 v3 v4)[2]? = some v2 := by kernel_rfl
theorem trC_at3 (v0 v1 v2 v3 v4 : Value) : (trC v0 v1 v2 v3 v4)[3]? = some v3 := by kernel_rfl
theorem trC_at4 (v0 v1 v2 v3 v4 : Value) : (trC v0 v1 v2 v3 v4)[4]? = some v4 := by kernel_rfl
theorem trC_at5 (v0 v1 v2 v3 v4 : Value) : (trC v0 v1 v2 v3 v4)[5]? = some (.int .i64 0) := by kernel_rfl
attribute [irreducible] trC zeroT

/-- A type whose values lie as n cells. -/
def Flat (P : Program) (ty n : Nat) : Prop := ∃ fs, P.underlying ty = some (.struct fs) ∧ (P.info? ty).map (·.size) = some n
section
variable {P : Program} {ops : Array Oper} {rest : List Oper} {o : Oper} {a : Act} {w : World} {Q : Exit → Act → World → Prop} {K : Act → World → Prop}
/-- A struct is loaded whole. -/
theorem wp_loadB {ty n : Nat} (hf : Flat P ty n) (x : Operand) (ho : o.op = .load ty x) (g : Nat) (hx : a.eval x = .pointer (some ⟨g, 0, none⟩)) {t : Nat} {cs : Array Value} (hg : w.heap[g]? = some (.cells cs t (0, 0)))
    (hn : cs.size = n) (h : K (a.put o.dst (.agg cs)) w) : o.wp P a w K Q := by
  subst hn
  obtain ⟨d, h1, h3⟩ := hf
  exact wp_load_row ty x ho g hx t cs (0, 0) _ hg h1 rfl h3 h
theorem wpl_loadB {ty n : Nat} (hf : Flat P ty n) (hgd : o.guard = none) (x : Operand) (ho : o.op = .load ty x) (g : Nat) (hx : a.eval x = .pointer (some ⟨g, 0, none⟩)) {t : Nat} {cs : Array Value} (hg : w.heap[g]? = some (.cells cs t (0, 0)))
    (hn : cs.size = n) (h : wpList P ops Q rest (a.put o.dst (.agg cs)) w) : wpList P ops Q (o :: rest) a w :=
  wpList_plain hgd fun _ hK => wp_loadB hf x ho g hx hg hn (hK _ _ h)
/-- A struct is stored whole: only its block changes. -/
theorem wp_storeB {ty n : Nat} (hf : Flat P ty n) (x y : Operand) (ho : o.op = .store ty x y) (g : Nat) (hx : a.eval x = .pointer (some ⟨g, 0, none⟩)) (cells : Array Value) (hy : a.eval y = .agg cells)
    {t : Nat} {old : Array Value} (hg : w.heap[g]? = some (.cells old t (0, 0))) (hn : cells.size = n) (hold : old.size = n) (h1 : cells.toList.all (·.oneCell') = true)
    (h : ∀ w', w'.heap[g]? = some (.cells cells t (0, 0)) → w.grownBy w' (some g) → w'.heap.size = w.heap.size → K (a.put o.dst undef) w') : o.wp P a w K Q := by
  subst hn
  obtain ⟨d, hu, h3⟩ := hf
  refine wp_store_row ty x y ho g cells hx hy t old hg h3 hold (by rw [← h1, Array.all_toList]) ?_
  refine h _ ?_ ⟨rfl, rfl, rfl, by simp [World.setRow], fun k hk hne => ?_⟩ (by simp [World.setRow])
  · simp [World.setRow, Array.getElem?_modify, hg]
  · simp only [World.setRow, Array.getElem?_modify]
    rw [if_neg (fun e => hne (by rw [e]))]
theorem wpl_storeB {ty n : Nat} (hf : Flat P ty n) (hgd : o.guard = none) (x y : Operand) (ho : o.op = .store ty x y) (g : Nat) (hx : a.eval x = .pointer (some ⟨g, 0, none⟩)) (cells : Array Value) (hy : a.eval y = .agg cells)
    {t : Nat} {old : Array Value} (hg : w.heap[g]? = some (.cells old t (0, 0))) (hn : cells.size = n) (hold : old.size = n) (h1 : cells.toList.all (·.oneCell') = true)
    (h : ∀ w', w'.heap[g]? = some (.cells cells t (0, 0)) → w.grownBy w' (some g) → w'.heap.size = w.heap.size → wpList P ops Q rest (a.put o.dst undef) w') : wpList P ops Q (o :: rest) a w :=
  wpList_plain hgd fun _ hK => wp_storeB hf x y ho g hx cells hy hg hn hold h1 fun w' e1 e2 e3 => hK _ _ (h w' e1 e2 e3)
/-- One struct is returned. -/
theorem ret_cell {fn : Func} {p : Tmp} {ty n : Nat} (hf : Flat P ty n) (h : fn.results = #[.cell p ty]) (tmps : Array Value) (g : Nat) (hp : tmps.getD p undef = .pointer (some ⟨g, 0, none⟩)) {t : Nat} {cs : Array Value}
    (hg : w.heap[g]? = some (.cells cs t (0, 0))) (hn : cs.size = n) : (results fn tmps).run P w = .ok (.agg cs) w := by
  subst hn
  obtain ⟨d, h1, h3⟩ := hf
  exact results_cell_row h tmps w g t cs (0, 0) _ hp hg h1 rfl h3
/-- A struct and a value are returned. -/
theorem ret_cell_tmp {fn : Func} {p u : Tmp} {ty n : Nat} (hf : Flat P ty n) (h : fn.results = #[.cell p ty, .tmp u]) (tmps : Array Value) (g : Nat) (hp : tmps.getD p undef = .pointer (some ⟨g, 0, none⟩)) {t : Nat} {cs : Array Value}
    (hg : w.heap[g]? = some (.cells cs t (0, 0))) (hn : cs.size = n) : (results fn tmps).run P w = .ok (.tuple #[.agg cs, tmps.getD u undef]) w := by
  subst hn
  obtain ⟨d, h1, h3⟩ := hf
  have hp' : tmps[p]?.getD undef = .pointer (some ⟨g, 0, none⟩) := by simpa using hp
  simp [results, h, hp', asAddr, run_loadVar_row w g t ty cs (0, 0) _ hg h1 rfl h3]
theorem ret_cell_tmp2 {fn : Func} {p u u2 : Tmp} {ty n : Nat} (hf : Flat P ty n) (h : fn.results = #[.cell p ty, .tmp u, .tmp u2]) (tmps : Array Value) (g : Nat) (hp : tmps.getD p undef = .pointer (some ⟨g, 0, none⟩)) {t : Nat} {cs : Array Value}
    (hg : w.heap[g]? = some (.cells cs t (0, 0))) (hn : cs.size = n) : (results fn tmps).run P w = .ok (.tuple #[.agg cs, tmps.getD u undef, tmps.getD u2 undef]) w := by
  subst hn
  obtain ⟨d, h1, h3⟩ := hf
  have hp' : tmps[p]?.getD undef = .pointer (some ⟨g, 0, none⟩) := by simpa using hp
  simp [results, h, hp', asAddr, run_loadVar_row w g t ty cs (0, 0) _ hg h1 rfl h3]
end
/-- Blocks behind a store into another one. -/
theorem grown_block {w w' : World} {r : Option Nat} (hg : w.grownBy w' r) {k : Nat} {o : Obj} (h : w.heap[k]? = some o) (hne : some k ≠ r) : w'.heap[k]? = some o := (hg.block k (block_lt h) hne).trans h
theorem below_grown {w w' w2 : World} {n g : Nat} (h : Below n w w') (hg : w'.grownBy w2 (some g)) (hn : n ≤ w'.heap.size) (hgn : n ≤ g) : Below n w w2 := h.grown hg hn fun k e => by cases e; exact hgn

theorem flatT : Flat Try.prog 50 518 := ⟨_, Try.underlying50, by kernel_rfl⟩
theorem flatY : Flat Try.prog 55 7 := ⟨_, Try.underlying55, by kernel_rfl⟩
end Go.Proofs.Ytochkonjfhhiiaa
