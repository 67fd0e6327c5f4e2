/-
  Helper text: data is read from its bytes; no statement is proved here.
-/
import Derived.Test.YtfblpakoibadoaaDoorEncAll
import Derived.Test.YtfblpakoibadoaaDoorCkCheck
namespace Go.Proofs.YtfblpakoibadoaaDoor
open Go Go.RowKit

theorem results_row_tmp {P : Program} {fn : Func} {p u : Tmp} {ty : TypeId} (h : fn.results = #[.cell p ty, .tmp u]) (tmps : Array Value) (w : World) (g : Nat) (t : TypeId) (cs : Array Value) (fr : Nat × Nat) (d : TypeDesc)
    (hp : tmps.getD p undef = .pointer (some ⟨g, 0, none⟩)) (hg : w.heap[g]? = some (.cells cs t fr))
    (hu : P.underlying ty = some d) (hd : (match d with | .struct _ | .array _ _ => true | _ => false) = true) (hi : (P.info? ty).map (·.size) = some cs.size) :
    (results fn tmps).run P w = .ok (.tuple #[.agg cs, tmps.getD u undef]) w := by
  have hp' : tmps[p]?.getD undef = .pointer (some ⟨g, 0, none⟩) := by simpa using hp
  simp [results, h, hp', asAddr, run_loadVar_row w g t ty cs fr d hg hu hd hi]
/-- A packet with data of the call's own and an error number are returned. -/
def ResPk (w : World) (r : Rg) (ys : List UInt8) (E : Nat) (e : Ending) (w' : World) : Prop :=
  ∃ v, e = .returned (.tuple #[.agg (pcells { r with data := v }), .int .i64 (E : Int)]) ∧ w'.ownsRow w.heap.size 5 1 v ys.length (ys.map bv) ∧ Below w.heap.size w w'
/-- .. with an error. -/
theorem resPk_none (w : World) (p E : Nat) (w' : World) (h : Below w.heap.size w w') : ResPk w (bare p) [] E (.returned (.tuple #[.agg (pcells (bare p)), .int .i64 (E : Int)])) w' := ⟨_, rfl, own_nil _ _ _, h⟩

theorem grown10 (W : World) (B : Nat) (v0 v1 v2 v3 v4 v5 v6 v7 v8 v9 : Value) : W.grownBy ((((((((((W.setCell ⟨B, 0, none⟩ v0).setCell ⟨B, 1, none⟩ v1).setCell ⟨B, 2, none⟩ v2).setCell ⟨B, 3, none⟩ v3).setCell ⟨B, 4, none⟩ v4).setCell ⟨B, 5, none⟩ v5).setCell ⟨B, 6, none⟩ v6).setCell ⟨B, 7, none⟩ v7).setCell ⟨B, 8, none⟩ v8).setCell ⟨B, 9, none⟩ v9) (some B) :=
  (Ck.grown_trans (Ck.grown_trans (Ck.grown_trans (Ck.grown_trans (Ck.grown_trans (Ck.grown_trans (Ck.grown_trans (Ck.grown_trans (Ck.grown_trans (Ck.grown_trans (Ck.grown_refl _ _) (grown_store _ B 0 v0)) (grown_store _ B 1 v1)) (grown_store _ B 2 v2)) (grown_store _ B 3 v3)) (grown_store _ B 4 v4)) (grown_store _ B 5 v5)) (grown_store _ B 6 v6)) (grown_store _ B 7 v7)) (grown_store _ B 8 v8)) (grown_store _ B 9 v9))
theorem own_grown {w w' : World} {base t : Nat} {v : Value} {n : Nat} {vs : List Value} {g : Nat} (h : w.ownsRow base t 1 v n vs) (hg : w.grownBy w' (some g)) (hlt : g < base) : w'.ownsRow base t 1 v n vs :=
  h.kept hg (by
    cases hv : v.ownBlock with
    | none => exact .inl rfl
    | some k => exact .inr (fun e => by injection e with e; have := (h.lt k hv).1; omega))

set_option maxHeartbeats 800000 in
set_option maxRecDepth 100000 in
theorem decD_short (w : World) (p : Nat) (A : Option Addr) (n c : Nat) (hn : n < 2) : Calls Tryd.prog 25 #[.int .u8 (p : Int), .slice A n c] w (ResPk w (bare 0) [] 5) := by
  have h1 : (n : Int) < 2 := by omega
  have hb := Lib.hid ((Below.refl w.heap.size w).alloc (Nat.le_refl _) (.cells (pcells (bare 0)) 29))
  have hr := Lib.hid (heap_alloc_new w (.cells (pcells (bare 0)) 29))
  go_enter Tryd.func25, Tryd.ntmps25
  go_wp2
  refine bodyPost_ret (results_row_tmp rfl _ _ w.heap.size _ _ _ _ rfl hr.out Tryd.underlying29 rfl (by kernel_rfl)) rfl ?_
  exact resPk_none w 0 5 _ hb.out
set_option maxHeartbeats 800000 in
set_option maxRecDepth 100000 in
theorem decD_long (w : World) (p : Nat) (A : Option Addr) (n c : Nat) (hn : 1026 < n) : Calls Tryd.prog 25 #[.int .u8 (p : Int), .slice A n c] w (ResPk w (bare 0) [] 5) := by
  have h1 : ¬ (n : Int) < 2 := by omega
  have h2 : (1026 : Int) < (n : Int) := by omega
  have hb := Lib.hid ((Below.refl w.heap.size w).alloc (Nat.le_refl _) (.cells (pcells (bare 0)) 29))
  have hr := Lib.hid (heap_alloc_new w (.cells (pcells (bare 0)) 29))
  go_enter Tryd.func25, Tryd.ntmps25
  go_wp2
  refine bodyPost_ret (results_row_tmp rfl _ _ w.heap.size _ _ _ _ rfl hr.out Tryd.underlying29 rfl (by kernel_rfl)) rfl ?_
  exact resPk_none w 0 5 _ hb.out

set_option maxHeartbeats 1600000 in
set_option maxRecDepth 100000 in
theorem decD_core (w : World) (hL : Laid w) (p : Nat) (A : Option Addr) (c : Nat) (zs : List UInt8) (hx : Rd w w.heap.size A c zs) (h2 : 2 ≤ zs.length) (h1026 : zs.length ≤ 1026) (q : Nat) (J : List UInt8) (E : Nat) (E0 : Int)
    (KC : ∀ W, Laid W → Rd W W.heap.size A c zs → Calls Tryd.prog 41 #[.slice A zs.length c] W (ResOE W 5 J E0)) (hE : (E0 = 0 ∧ E = 0 ∧ q = p) ∨ (E0 = 10 ∧ E = 10 ∧ q = 0 ∧ J = [])) :
    Calls Tryd.prog 25 #[.int .u8 (p : Int), .slice A zs.length c] w (ResPk w (bare q) J E) := by
  have h3 : (2 : Int) ≤ (zs.length : Int) := by omega
  have h4 : (zs.length : Int) ≤ 1026 := by omega
  have hBW := (Below.refl w.heap.size w).alloc (Nat.le_refl _) (.cells (pcells (bare 0)) 29)
  have hb := Lib.hid hBW
  have hr := Lib.hid (heap_alloc_new w (.cells (pcells (bare 0)) 29))
  have KCh := Lib.hid (KC _ (hL.below hBW) (hx.belowTop hBW))
  have hEh := Lib.hid hE
  clear KC hL hx hE hBW
  go_enter Tryd.func25, Tryd.ntmps25
  go_wp2_with fail
  refine KCh.out.mono ?_
  rintro e w1 ⟨v, rfl, hown, hB⟩
  obtain ⟨A2, c2, rfl, hr2⟩ := Rd.of_own hown
  have hr1 := Lib.hid ((hB.block _ (lt_of_block hr.out)).trans hr.out)
  have hb1 := Lib.hid (hb.out.trans (hB.mono hb.out.size))
  have hown := Lib.hid hown
  clear hr hb hB hr2
  have r0 : w1.cell? ⟨w.heap.size, 0, none⟩ = some (.int .u8 0) := cell_at hr1.out 0
  have r1 : w1.cell? ⟨w.heap.size, 1, none⟩ = some (.int .u8 0) := cell_at hr1.out 1
  have r2 : w1.cell? ⟨w.heap.size, 2, none⟩ = some (.int .u8 0) := cell_at hr1.out 2
  have r3 : w1.cell? ⟨w.heap.size, 3, none⟩ = some (.int .u16 0) := cell_at hr1.out 3
  have r4 : w1.cell? ⟨w.heap.size, 4, none⟩ = some (.int .u8 0) := cell_at hr1.out 4
  have r5 : w1.cell? ⟨w.heap.size, 5, none⟩ = some (.int .u8 0) := cell_at hr1.out 5
  have r6 : w1.cell? ⟨w.heap.size, 6, none⟩ = some (.bool false) := cell_at hr1.out 6
  have r7 : w1.cell? ⟨w.heap.size, 7, none⟩ = some (.bool false) := cell_at hr1.out 7
  have r8 : w1.cell? ⟨w.heap.size, 8, none⟩ = some (.int .u8 0) := cell_at hr1.out 8
  have r9 : w1.cell? ⟨w.heap.size, 9, none⟩ = some (.slice none 0 0) := cell_at hr1.out 9
  have fR : ∀ i, w1.frozen? ⟨w.heap.size, i, none⟩ = false := fun i => by simp [World.frozen?, hr1.out]
  have hg10 := Lib.hid (fun v0 v1 v2 v3 v4 v5 v6 v7 v8 v9 => own_grown hown.out (grown10 w1 w.heap.size v0 v1 v2 v3 v4 v5 v6 v7 v8 v9) (by simp))
  have hb10 := Lib.hid (fun v0 v1 v2 v3 v4 v5 v6 v7 v8 v9 => below10 v0 v1 v2 v3 v4 v5 v6 v7 v8 v9 hb1.out (Nat.le_refl w.heap.size))
  clear hown
  rcases hEh.out with ⟨rfl, rfl, rfl⟩ | ⟨rfl, rfl, rfl, rfl⟩
  · go_wp2
    refine bodyPost_ret (results_row_tmp rfl _ _ w.heap.size _ _ _ _ rfl (store10 _ _ _ _ _ _ _ _ _ _ _ _ _ _ _ _ _ _ _ _ hr1.out) Tryd.underlying29 rfl (by kernel_rfl)) rfl ?_
    exact ⟨_, rfl, own_base (hg10.out _ _ _ _ _ _ _ _ _ _) (by simp), hb10.out _ _ _ _ _ _ _ _ _ _⟩
  · go_wp2
    refine bodyPost_ret (results_row_tmp rfl _ _ w.heap.size _ _ _ _ rfl (store10 _ _ _ _ _ _ _ _ _ _ _ _ _ _ _ _ _ _ _ _ hr1.out) Tryd.underlying29 rfl (by kernel_rfl)) rfl ?_
    exact resPk_none w 0 10 _ (hb10.out _ _ _ _ _ _ _ _ _ _)

theorem decD_good (w : World) (hL : Laid w) (p : Nat) (A : Option Addr) (c : Nat) (zs : List UInt8) (hx : Rd w w.heap.size A c zs) (h2 : 2 ≤ zs.length) (h1026 : zs.length ≤ 1026) (hq : Ck.chkL (Ck.frontL zs) = Ck.lastL zs) :
    Calls Tryd.prog 25 #[.int .u8 (p : Int), .slice A zs.length c] w (ResPk w (bare p) (Ck.frontL zs) 0) :=
  decD_core w hL p A c zs hx h2 h1026 p _ 0 0 (fun W hLW hRW => Ck.check_core W hLW.ck A c zs hRW h2 (by omega) _ _ (.inl ⟨hq, rfl, rfl⟩)) (.inl ⟨rfl, rfl, rfl⟩)
theorem decD_sum (w : World) (hL : Laid w) (p : Nat) (A : Option Addr) (c : Nat) (zs : List UInt8) (hx : Rd w w.heap.size A c zs) (h2 : 2 ≤ zs.length) (h1026 : zs.length ≤ 1026) (hq : Ck.chkL (Ck.frontL zs) ≠ Ck.lastL zs) :
    Calls Tryd.prog 25 #[.int .u8 (p : Int), .slice A zs.length c] w (ResPk w (bare 0) [] 10) :=
  decD_core w hL p A c zs hx h2 h1026 0 _ 10 10 (fun W hLW hRW => Ck.check_core W hLW.ck A c zs hRW h2 (by omega) _ _ (.inr ⟨hq, rfl, rfl⟩)) (.inr ⟨rfl, rfl, rfl, rfl⟩)

end Go.Proofs.YtfblpakoibadoaaDoor
