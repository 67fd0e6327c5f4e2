/-
  Helper text, several in one; no statement is proved here.
-/
import Derived.Test.YtkfkcpogcobmbaaDoorMv
import Derived.Test.YtkfkcpogcobmbaaDoorRcAll
import Derived.Laws.Tables
import Derived.Laws.Rows
import Derived.Lib.SliceRun
namespace Go.Proofs.YtkfkcpogcobmbaaDoor
open Go Go.RowKit

theorem Fit.data_any {r : Rg} {xs : List UInt8} (v : Value) (h : Fit r xs) : Fit { r with data := v } xs := by
  cases h with
  | tok hp h1 h2 h3 h4 h5 h6 h7 h8 h9 => exact .tok hp h1 h2 h3 h4 h5 h6 h7 h8 h9
  | sof hp h1 h2 h3 h4 h5 h6 h7 h8 h9 => exact .sof hp h1 h2 h3 h4 h5 h6 h7 h8 h9
  | split hp h1 h2 h3 h4 h5 h8 h9 => exact .split hp h1 h2 h3 h4 h5 h8 h9
  | data hp h1 h2 h3 h4 h5 h6 h7 h8 => exact .data hp h1 h2 h3 h4 h5 h6 h7 h8
  | bare hp h1 h2 h3 h4 h5 h6 h7 h8 h9 => exact .bare hp h1 h2 h3 h4 h5 h6 h7 h8 h9
theorem errR_data {r : Rg} (ok : r.Ok) (v : Value) (xs : List UInt8) : errR { r with data := v } xs = errR r xs := by
  have ok' : Rg.Ok { r with data := v } := ⟨ok.pid, ok.addr, ok.endp, ok.frame, ok.hub, ok.port, ok.kind, ok.spare⟩
  cases hk : known r.pid
  · rw [errR_no hk, errR_no (r := { r with data := v }) hk]
  by_cases hf : Fit r xs
  · by_cases hl : xs.length ≤ 1024
    · rw [errR_ok ok hk hf hl, errR_ok ok' hk (hf.data_any v) hl]
    · rw [errR_long ok hk hf (by omega), errR_long ok' hk (hf.data_any v) (by omega)]
  · rw [errR_bad ok hk hf, errR_bad ok' hk (fun h => hf (h.data_any r.data))]
theorem Pkt.Ok.err_eq {p : Pkt} (h : p.Ok) (v : Value) : errR (p.rg v) p.data = p.err := (errR_data (h.rg (.slice none p.data.length 0)) v p.data)
/-- The program's Check. -/
theorem pcheck_any (w : World) (hL : Laid w) (p : Pkt) (ok : p.Ok) (A : Option Addr) (c : Nat) (hx : Rd w w.heap.size A c p.data) :
    Calls Tryd.prog 38 #[pkV p A c] w (ResI w (p.err : Int)) := by
  rw [← ok.err_eq (.slice A p.data.length c)]
  exact check_any w hL (p.rg (.slice A p.data.length c)) (ok.rg _) A c p.data hx rfl
/-- The reference's. -/
theorem rcheck_any (w : World) (p : Pkt) (ok : p.Ok) (A : Option Addr) (c : Nat) :
    Calls Tryd.prog 25 #[pkV p A c] w (ResI w (p.err : Int)) := by
  rw [← ok.err_eq (.slice A p.data.length c)]
  exact refCheck_any w (p.rg (.slice A p.data.length c)) (ok.rg _) A c p.data rfl
theorem Pkt.err_len {p : Pkt} (ok : p.Ok) (h : p.err = 0) : p.data.length ≤ 1024 := by
  by_cases hl : p.data.length ≤ 1024
  · exact hl
  · exfalso
    unfold Pkt.err errR at h
    split at h
    · omega
    · omega
theorem Pkt.err_pid {p : Pkt} (h : p.err = 0) : known p.pid = true := by
  unfold Pkt.err errR at h
  split at h
  · rename_i hh; exact hh.1
  · omega
theorem Pkt.err_le (p : Pkt) : p.err ≤ 3 := by
  unfold Pkt.err errR
  split
  · split <;> omega
  · omega
theorem zeroP_err : zeroP.err = 1 := by
  unfold Pkt.err
  exact errR_no (by decide)

end Go.Proofs.YtkfkcpogcobmbaaDoor

namespace Go.Proofs.YtkfkcpogcobmbaaDoor
open Go Go.RowKit

theorem block_at {w : World} {g t i : Nat} {cs : Array Value} {v : Value} (h : w.heap[g]? = some (.cells cs t (0, 0))) (hv : cs[i]? = some v) : w.cell? ⟨g, i, none⟩ = some v := by
  rw [cell_of_row w g i cs t (0, 0) h]; exact hv
theorem block_free {w : World} {g t : Nat} {cs : Array Value} (h : w.heap[g]? = some (.cells cs t (0, 0))) (i : Nat) : w.frozen? ⟨g, i, none⟩ = false := by
  simp [World.frozen?, h]
theorem block_set {w : World} {g t : Nat} {cs : Array Value} (h : w.heap[g]? = some (.cells cs t (0, 0))) (i : Nat) (v : Value) : (w.setCell ⟨g, i, none⟩ v).heap[g]? = some (.cells (cs.setIfInBounds i v) t (0, 0)) := by
  simp [World.setCell, Array.getElem?_modify, h]
theorem block_lt {w : World} {g : Nat} {o : Obj} (h : w.heap[g]? = some o) : g < w.heap.size := (Array.getElem?_eq_some_iff.1 h).1

/-- A type whose values lie as n cells. -/
def Flat (P : Program) (ty n : Nat) : Prop := ∃ fs, P.underlying ty = some (.struct fs) ∧ (P.info? ty).map (·.size) = some n
theorem flatPk : Flat Tryd.prog 40 10 := ⟨_, Tryd.underlying40, by kernel_rfl⟩
theorem flatTry : Flat Tryd.prog 45 7 := ⟨_, Tryd.underlying45, by kernel_rfl⟩
theorem flatOut : Flat Tryd.prog 56 2 := ⟨_, Tryd.underlying56, by kernel_rfl⟩
theorem flatHost : Flat Tryd.prog 108 3 := ⟨_, Tryd.underlying108, by kernel_rfl⟩
theorem flatSent : Flat Tryd.prog 101 12 := ⟨_, Tryd.underlying101, by kernel_rfl⟩

section
variable {P : Program} {ops : Array Oper} {rest : List Oper} {o : Oper} {a : Act} {w : World} {Q : Exit → Act → World → Prop} {K : Act → World → Prop}
/-- A struct is loaded whole. -/
theorem wp_loadB {ty n : Nat} (hf : Flat P ty n) (x : Operand) (ho : o.op = .load ty x) (g : Nat) (hx : a.eval x = .pointer (some ⟨g, 0, none⟩)) {t : Nat} {cs : Array Value} (hg : w.heap[g]? = some (.cells cs t (0, 0)))
    (hn : cs.size = n) (h : K (a.put o.dst (.agg cs)) w) : o.wp P a w K Q := by
  subst hn
  obtain ⟨d, h1, h3⟩ := hf
  exact wp_load_row ty x ho g hx t cs (0, 0) _ hg h1 rfl h3 h
theorem wpl_loadB {ty n : Nat} (hf : Flat P ty n) (hgd : o.guard = none) (x : Operand) (ho : o.op = .load ty x) (g : Nat) (hx : a.eval x = .pointer (some ⟨g, 0, none⟩)) {t : Nat} {cs : Array Value} (hg : w.heap[g]? = some (.cells cs t (0, 0)))
    (hn : cs.size = n) (h : wpList P ops Q rest (a.put o.dst (.agg cs)) w) : wpList P ops Q (o :: rest) a w :=
  wpList_plain hgd fun _ hK => wp_loadB hf x ho g hx hg hn (hK _ _ h)
/-- A struct is stored whole: only its block changes. -/
theorem wp_storeB {ty n : Nat} (hf : Flat P ty n) (x y : Operand) (ho : o.op = .store ty x y) (g : Nat) (hx : a.eval x = .pointer (some ⟨g, 0, none⟩)) (cells : Array Value) (hy : a.eval y = .agg cells)
    {t : Nat} {old : Array Value} (hg : w.heap[g]? = some (.cells old t (0, 0))) (hn : cells.size = n) (hold : old.size = n) (h1 : cells.toList.all (·.oneCell') = true)
    (h : ∀ w', w'.heap[g]? = some (.cells cells t (0, 0)) → w.grownBy w' (some g) → w'.heap.size = w.heap.size → K (a.put o.dst undef) w') : o.wp P a w K Q := by
  subst hn
  obtain ⟨d, hu, h3⟩ := hf
  refine wp_store_row ty x y ho g cells hx hy t old hg h3 hold (by rw [← h1, Array.all_toList]) ?_
  refine h _ ?_ ⟨rfl, rfl, rfl, by simp [World.setRow], fun k hk hne => ?_⟩ (by simp [World.setRow])
  · simp [World.setRow, Array.getElem?_modify, hg]
  · simp only [World.setRow, Array.getElem?_modify]
    rw [if_neg (fun e => hne (by rw [e]))]
theorem wpl_storeB {ty n : Nat} (hf : Flat P ty n) (hgd : o.guard = none) (x y : Operand) (ho : o.op = .store ty x y) (g : Nat) (hx : a.eval x = .pointer (some ⟨g, 0, none⟩)) (cells : Array Value) (hy : a.eval y = .agg cells)
    {t : Nat} {old : Array Value} (hg : w.heap[g]? = some (.cells old t (0, 0))) (hn : cells.size = n) (hold : old.size = n) (h1 : cells.toList.all (·.oneCell') = true)
    (h : ∀ w', w'.heap[g]? = some (.cells cells t (0, 0)) → w.grownBy w' (some g) → w'.heap.size = w.heap.size → wpList P ops Q rest (a.put o.dst undef) w') : wpList P ops Q (o :: rest) a w :=
  wpList_plain hgd fun _ hK => wp_storeB hf x y ho g hx cells hy hg hn hold h1 fun w' e1 e2 e3 => hK _ _ (h w' e1 e2 e3)
/-- One struct is returned. -/
theorem ret_cell {fn : Func} {p : Tmp} {ty n : Nat} (hf : Flat P ty n) (h : fn.results = #[.cell p ty]) (tmps : Array Value) (g : Nat) (hp : tmps.getD p undef = .pointer (some ⟨g, 0, none⟩)) {t : Nat} {cs : Array Value}
    (hg : w.heap[g]? = some (.cells cs t (0, 0))) (hn : cs.size = n) : (results fn tmps).run P w = .ok (.agg cs) w := by
  subst hn
  obtain ⟨d, h1, h3⟩ := hf
  exact results_cell_row h tmps w g t cs (0, 0) _ hp hg h1 rfl h3
/-- A struct and a value are returned. -/
theorem ret_cell_tmp {fn : Func} {p u : Tmp} {ty n : Nat} (hf : Flat P ty n) (h : fn.results = #[.cell p ty, .tmp u]) (tmps : Array Value) (g : Nat) (hp : tmps.getD p undef = .pointer (some ⟨g, 0, none⟩)) {t : Nat} {cs : Array Value}
    (hg : w.heap[g]? = some (.cells cs t (0, 0))) (hn : cs.size = n) : (results fn tmps).run P w = .ok (.tuple #[.agg cs, tmps.getD u undef]) w := by
  subst hn
  obtain ⟨d, h1, h3⟩ := hf
  have hp' : tmps[p]?.getD undef = .pointer (some ⟨g, 0, none⟩) := by simpa using hp
  simp [results, h, hp', asAddr, run_loadVar_row w g t ty cs (0, 0) _ hg h1 rfl h3]
theorem ret_cell_tmp2 {fn : Func} {p u u2 : Tmp} {ty n : Nat} (hf : Flat P ty n) (h : fn.results = #[.cell p ty, .tmp u, .tmp u2]) (tmps : Array Value) (g : Nat) (hp : tmps.getD p undef = .pointer (some ⟨g, 0, none⟩)) {t : Nat} {cs : Array Value}
    (hg : w.heap[g]? = some (.cells cs t (0, 0))) (hn : cs.size = n) : (results fn tmps).run P w = .ok (.tuple #[.agg cs, tmps.getD u undef, tmps.getD u2 undef]) w := by
  subst hn
  obtain ⟨d, h1, h3⟩ := hf
  have hp' : tmps[p]?.getD undef = .pointer (some ⟨g, 0, none⟩) := by simpa using hp
  simp [results, h, hp', asAddr, run_loadVar_row w g t ty cs (0, 0) _ hg h1 rfl h3]
end
/-- Blocks behind a store into another one. -/
theorem grown_block {w w' : World} {r : Option Nat} (hg : w.grownBy w' r) {k : Nat} {o : Obj} (h : w.heap[k]? = some o) (hne : some k ≠ r) : w'.heap[k]? = some o := (hg.block k (block_lt h) hne).trans h
theorem below_grown {w w' w2 : World} {n g : Nat} (h : Below n w w') (hg : w'.grownBy w2 (some g)) (hn : n ≤ w'.heap.size) (hgn : n ≤ g) : Below n w w2 := h.grown hg hn fun k e => by cases e; exact hgn
theorem alloc1 (w : World) (o1 : Obj) : (w.alloc o1).heap[w.heap.size]? = some o1 := heap_alloc_new w o1
theorem alloc2 (w : World) (o1 o2 : Obj) : ((w.alloc o1).alloc o2).heap[w.heap.size]? = some o1 ∧ ((w.alloc o1).alloc o2).heap[w.heap.size + 1]? = some o2 ∧ ((w.alloc o1).alloc o2).heap.size = w.heap.size + 1 + 1 ∧ Below w.heap.size w ((w.alloc o1).alloc o2) := by
  refine ⟨(Below.heap_alloc _ _ _ (by simp)).trans (heap_alloc_new w o1), ?_, by simp, ((Below.refl _ w).alloc (Nat.le_refl _) o1).alloc (by simp) o2⟩
  have := heap_alloc_new (w.alloc o1) o2
  rwa [show (w.alloc o1).heap.size = w.heap.size + 1 by simp] at this
theorem alloc3 (w : World) (o1 o2 o3 : Obj) : (((w.alloc o1).alloc o2).alloc o3).heap[w.heap.size]? = some o1 ∧ (((w.alloc o1).alloc o2).alloc o3).heap[w.heap.size + 1]? = some o2 ∧ (((w.alloc o1).alloc o2).alloc o3).heap[w.heap.size + 1 + 1]? = some o3 ∧
    (((w.alloc o1).alloc o2).alloc o3).heap.size = w.heap.size + 1 + 1 + 1 ∧ Below w.heap.size w (((w.alloc o1).alloc o2).alloc o3) := by
  obtain ⟨h1, h2, h3, h4⟩ := alloc2 w o1 o2
  refine ⟨(Below.heap_alloc _ _ _ (by omega)).trans h1, (Below.heap_alloc _ _ _ (by omega)).trans h2, ?_, by simp, h4.alloc (by omega) o3⟩
  have := heap_alloc_new ((w.alloc o1).alloc o2) o3
  rwa [h3] at this

end Go.Proofs.YtkfkcpogcobmbaaDoor

namespace Go.Proofs.YtkfkcpogcobmbaaDoor
open Go Go.RowKit

theorem Tryd.info5' : (Tryd.prog.info? 5).map (fun i => (i.zero, i.size, i.bytes)) = some (some (.int .u8 0), 1, 1) := by kernel_rfl

/-- Bytes in memory that is new since w. -/
def ResNU (w : World) (xs : List UInt8) (e : Ending) (w' : World) : Prop :=
  ∃ A c, e = .returned (.slice A xs.length c) ∧ RdU (fun k => w.heap.size ≤ k ∧ k < w'.heap.size) w' A c xs ∧ Below w.heap.size w w'

set_option maxHeartbeats 400000 in
set_option maxRecDepth 100000 in
theorem bcloneU_any (w : World) (A : Option Addr) (c : Nat) (xs : List UInt8) (hx : Rd w w.heap.size A c xs) (hl : xs.length ≤ 1000000) :
    Calls Tryd.prog 50 #[.slice A xs.length c] w (ResNU w xs) := by
  have qT : ∀ (w : World) (a : Option Addr) (n c n' c' : Nat), (binOp .eql 22 (.slice a n c) (.slice none n' c')).run Tryd.prog w = .ok (.bool a.isNone) w := fun w a n c n' c' => Lib.run_eql_slice_nil w _ _ a n c n' c' Tryd.underlying22
  rcases A with _ | ad
  · have h0 : xs = [] := by
      rcases Nat.eq_zero_or_pos xs.length with h0 | h0
      · exact List.eq_nil_of_length_eq_zero h0
      · obtain ⟨b, off, e, _⟩ := hx.cells h0
        cases e
    subst h0
    rw [List.length_nil]
    go_enter Tryd.func50, Tryd.ntmps50
    go_wp2
    go_ret
    exact ⟨none, 0, rfl, RdU.nil _, Below.refl _ _⟩
  · have hown := Lib.hid (own_built w 5 [] (by simp))
    have hx1 := Lib.hid (hx.alloc (Nat.le_refl _) (.cells (List.map bv []).toArray 5))
    have hl' := Lib.hid hl
    clear hx hl
    go_enter Tryd.func50, Tryd.ntmps50
    go_wp2_with (at_builtin; refine wpl_appendN Tryd.underlying22 Tryd.info5' rfl (.tmp 5) (.tmp 6) rfl w.heap.size _ [] rfl hown.out _ c (some ad) xs hx1.out rfl (by have := hl'.out; simp; omega) (by simp) ?_; intro v' w' ho hbb)
    go_ret
    obtain ⟨A', c', rfl, hr⟩ := RdU.of_own (xs := [] ++ xs) ho
    simp only [List.nil_append] at hr ⊢
    exact ⟨A', c', rfl, hr, ((Below.refl _ w).alloc (Nat.le_refl _) _).trans hbb⟩

theorem bclip_any (w : World) (A : Option Addr) (n c : Nat) (hle : n ≤ c) (hcap : c ≤ 9223372036854775807) : Calls Tryd.prog 49 #[.slice A n c] w fun e w' => e = .returned (.slice A n n) ∧ w = w' := by
  go_enter Tryd.func49, Tryd.ntmps49
  go_wp2
  go_ret
  exact ⟨rfl, rfl⟩

/-- Bytes in memory that is new since w. -/
def ResN (w : World) (xs : List UInt8) (e : Ending) (w' : World) : Prop :=
  ∃ A c, e = .returned (.slice A xs.length c) ∧ RdS (fun k => w.heap.size ≤ k ∧ k < w'.heap.size) w' A c xs ∧ Below w.heap.size w w'
/-- The packet with its data in memory that is new since w. -/
def ResPk (w : World) (p : Pkt) (e : Ending) (w' : World) : Prop :=
  ∃ A c, e = .returned (pkV p A c) ∧ RdS (fun k => w.heap.size ≤ k ∧ k < w'.heap.size) w' A c p.data ∧ Below w.heap.size w w'
/-- The packet with its data in memory that is new since w. -/
def ResPkU (w : World) (p : Pkt) (e : Ending) (w' : World) : Prop :=
  ∃ A c, e = .returned (pkV p A c) ∧ RdU (fun k => w.heap.size ≤ k ∧ k < w'.heap.size) w' A c p.data ∧ Below w.heap.size w w'

/-- The block of a packet that lies alone. -/
abbrev pkB (p : Pkt) (A : Option Addr) (c : Nat) : Obj := .cells #[.int .u8 (p.pid : Int), .int .u8 (p.addr : Int), .int .u8 (p.endp : Int), .int .u16 (p.frame : Int), .int .u8 (p.hub : Int), .int .u8 (p.port : Int), .bool p.comp, .bool p.low, .int .u8 (p.kind : Int), .slice A p.data.length c] 40
/-- .. of a packet of zeros. -/
abbrev pkZ : Obj := .cells #[.int .u8 0, .int .u8 0, .int .u8 0, .int .u16 0, .int .u8 0, .int .u8 0, .bool false, .bool false, .int .u8 0, .slice none 0 0] 40
theorem pk_cells {w : World} {k : Nat} {p : Pkt} {A : Option Addr} {c : Nat} (h : w.heap[k]? = some (pkB p A c)) :
    w.cell? ⟨k, 0, none⟩ = some (.int .u8 (p.pid : Int)) ∧ w.cell? ⟨k, 1, none⟩ = some (.int .u8 (p.addr : Int)) ∧ w.cell? ⟨k, 2, none⟩ = some (.int .u8 (p.endp : Int)) ∧ w.cell? ⟨k, 3, none⟩ = some (.int .u16 (p.frame : Int)) ∧
    w.cell? ⟨k, 4, none⟩ = some (.int .u8 (p.hub : Int)) ∧ w.cell? ⟨k, 5, none⟩ = some (.int .u8 (p.port : Int)) ∧ w.cell? ⟨k, 6, none⟩ = some (.bool p.comp) ∧ w.cell? ⟨k, 7, none⟩ = some (.bool p.low) ∧ w.cell? ⟨k, 8, none⟩ = some (.int .u8 (p.kind : Int)) ∧
    w.cell? ⟨k, 9, none⟩ = some (.slice A p.data.length c) :=
  ⟨cell_at h 0, cell_at h 1, cell_at h 2, cell_at h 3, cell_at h 4, cell_at h 5, cell_at h 6, cell_at h 7, cell_at h 8, cell_at h 9⟩
theorem pk_free {w : World} {k t : Nat} {cs : Array Value} (h : w.heap[k]? = some (.cells cs t (0, 0))) (i : Nat) : w.frozen? ⟨k, i, none⟩ = false := by simp [World.frozen?, h]

set_option maxHeartbeats 800000 in
set_option maxRecDepth 100000 in
theorem ownU_any (w : World) (p : Pkt) (A : Option Addr) (c : Nat) (hx : Rd w w.heap.size A c p.data) (hl : p.data.length ≤ 1000000) :
    Calls Tryd.prog 33 #[pkV p A c] w (ResPkU w p) := by
  obtain ⟨h0, h1, h2, h3⟩ := alloc2 w (pkB p A c) pkZ
  have hx2 := Lib.hid ((hx.below h3).more h3.size)
  have hl' := Lib.hid hl
  clear hx hl
  obtain ⟨p0, p1, p2, p3, p4, p5, p6, p7, p8, xs⟩ := p
  simp only [pkB, pkV, pkZ] at h0 h1 h2 h3 hx2 hl' ⊢
  have H0 := Lib.hid h0
  have H1 := Lib.hid h1
  have H2 := Lib.hid h2
  have H3 := Lib.hid h3
  clear h0 h1 h2 h3
  go_enter Tryd.func33, Tryd.ntmps33
  go_wp2_with fail
  refine (bcloneU_any _ A c xs (hx2.out) hl'.out).mono ?_
  rintro e w1 ⟨A1, c1, rfl, hr1, hb1⟩
  have k0 := (hb1.block _ (block_lt H0.out)).trans H0.out
  have k1 := (hb1.block _ (block_lt H1.out)).trans H1.out
  have hB := Lib.hid (H3.out.trans (hb1.mono H3.out.size))
  have hr := Lib.hid (hr1.mono (G := fun k => w.heap.size + 1 + 1 ≤ k ∧ k < w1.heap.size) fun k hk => ⟨by have := hk.1; rw [H2.out] at this; exact this, hk.2⟩)
  have hle := hr1.le
  have hcap := hr1.cap
  clear hr1 hb1 H0 H1 H2 H3 hx2
  have f9 := block_free k0 9
  have c9 := block_at k0 (i := 9) (v := .slice A xs.length c) rfl
  have k2 := Lib.hid (block_set k0 9 (.slice A1 xs.length xs.length))
  have k3 := Lib.hid ((Below.heap_setCell w1 ⟨w.heap.size, 9, none⟩ (.slice A1 xs.length xs.length) (w.heap.size + 1) (by simp)).trans k1)
  simp only [List.setIfInBounds_toArray, List.set_cons_zero, List.set_cons_succ] at k2
  clear k0 k1
  go_wp2_with fail
  refine (bclip_any _ A1 xs.length c1 hle hcap).mono ?_
  rintro e w1' ⟨rfl, rfl⟩
  have hr2 := Lib.hid (hr.out.clip)
  clear hle hcap hr
  go_wp2_with (first | (refine wpl_loadB flatPk rfl (.tmp 1) rfl _ rfl k2.out rfl ?_) | (refine wpl_storeB flatPk rfl (.tmp 2) (.tmp 8) rfl _ rfl _ rfl k3.out rfl rfl rfl ?_; intro w2 k4 hg2 hs2))
  refine bodyPost_ret (ret_cell flatPk rfl _ (w.heap.size + 1) rfl k4 rfl) rfl ?_
  have hs3 : w2.heap.size = w1.heap.size := by rw [hs2]; simp [World.setCell]
  have hsz := hB.out.size
  refine ⟨A1, xs.length, rfl, (hr2.out.keep fun k hk => ?_).mono fun k hk => ⟨by omega, by omega⟩, ?_⟩
  · rw [hg2.block k (by simp [World.setCell]; omega) (fun e => by injection e; omega), Below.heap_setCell _ _ _ _ (by show k ≠ w.heap.size; omega)]
  · exact below_grown (hB.out.setCell (p := ⟨w.heap.size, 9, none⟩) (Nat.le_refl _) _) hg2 (by simpa [World.setCell] using hsz) (by omega)

theorem own_any (w : World) (p : Pkt) (A : Option Addr) (c : Nat) (hx : Rd w w.heap.size A c p.data) (hl : p.data.length ≤ 1000000) :
    Calls Tryd.prog 33 #[pkV p A c] w (ResPk w p) := (ownU_any w p A c hx hl).mono fun e w' ⟨A1, c1, h1, h2, h3⟩ => ⟨A1, c1, h1, h2.rds, h3⟩

end Go.Proofs.YtkfkcpogcobmbaaDoor

