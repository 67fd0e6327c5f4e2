/-
  Helper text: Next, End and Answer of new transfers and of zero ones; no statement is proved here.
-/
import Derived.Test.YtochkonjfhhiiaaSt10
namespace Go.Proofs.Ytochkonjfhhiiaa
open Go Go.RowKit

abbrev tryZ : Array Value := #[.int .u8 0, .int .u8 0, .int .u8 0, .bool false, .bool false, .int .i64 0, .slice none 0 0]
/-- What the first cells of a transfer hold. -/
structure TrAt (cs : Array Value) (inn : Bool) (endp : Nat) (max : Int) (A : Option Addr) (n c : Nat) (many count : Int) : Prop where
  size : cs.size = 518
  one : cs.toList.all (·.oneCell') = true
  a0 : cs[0]? = some (.bool inn)
  a1 : cs[1]? = some (.int .u8 endp)
  a2 : cs[2]? = some (.int .i64 max)
  a3 : cs[3]? = some (.slice A n c)
  a4 : cs[4]? = some (.int .i64 many)
  a5 : cs[5]? = some (.int .i64 count)
theorem trAt_new (inn : Bool) (endp : Nat) (max : Int) (A : Option Addr) (n c : Nat) (many : Int) : TrAt (trC (.bool inn) (.int .u8 endp) (.int .i64 max) (.slice A n c) (.int .i64 many)) inn endp max A n c many 0 :=
  ⟨trC_size _ _ _ _ _, trC_one _ _ _ _ _ _ _, trC_at0 _ _ _ _ _, trC_at1 _ _ _ _ _, trC_at2 _ _ _ _ _, trC_at3 _ _ _ _ _, trC_at4 _ _ _ _ _, trC_at5 _ _ _ _ _⟩
theorem trAt_zero : TrAt zeroT false 0 0 none 0 0 0 0 := ⟨zeroT_size, zeroT_one, by kernel_rfl, by kernel_rfl, by kernel_rfl, by kernel_rfl, by kernel_rfl, by kernel_rfl⟩

set_option maxHeartbeats 1600000 in
theorem next10_not (w : World) (cs : Array Value) (inn : Bool) (endp : Nat) (max : Int) (A : Option Addr) (n c : Nat) (many count : Int) (h : TrAt cs inn endp max A n c many count) (hno : ¬ count < sizeF inn n many) :
    Calls Try.prog 19 #[.agg cs] w fun e w' => e = .returned (.tuple #[.agg tryZ, .bool false]) ∧ Below w.heap.size w w' := by
  obtain ⟨b1, b2, _, b4⟩ := two_boxes w (.cells cs 50) (.cells tryZ 55)
  have KU := under_any ((w.alloc (.cells cs 50)).alloc (.cells tryZ 55)) w.heap.size inn A n c many count (block_at b1 h.a0) (block_at b1 h.a3) (block_at b1 h.a4) (block_at b1 h.a5)
  rw [decide_eq_false hno] at KU
  replace KU := Lib.hid KU
  replace b2 := Lib.hid b2
  replace b4 := Lib.hid b4
  clear b1 h hno
  go_enter Try.func19, Try.ntmps19
  go_wp2_with fail
  refine KU.out.mono ?_
  rintro e w' ⟨rfl, k, rfl⟩
  have hQ : (((w.alloc (.cells cs 50)).alloc (.cells tryZ 55)).drewN k).heap[w.heap.size + 1]? = _ := b2.out
  have hB := Lib.hid (below_drewN b4.out k)
  have hs : w.heap.size + 2 ≤ (((w.alloc (.cells cs 50)).alloc (.cells tryZ 55)).drewN k).heap.size := by show _ ≤ ((w.alloc _).alloc _).heap.size; simp
  generalize ((w.alloc (.cells cs 50)).alloc (.cells tryZ 55)).drewN k = W at hQ hB hs ⊢
  go_wp2_with (refine wpl_storeB flatY rfl (.tmp 2) (.tmp 7) rfl (w.heap.size + 1) rfl tryZ rfl hQ rfl rfl rfl ?_; intro w2 hQ2 hg2 hs2)
  refine bodyPost_ret (ret_cell_tmp flatY rfl _ (w.heap.size + 1) rfl hQ2 rfl) rfl ?_
  exact ⟨rfl, below_grown hB.out hg2 (by omega) (by omega)⟩

set_option maxHeartbeats 1600000 in
theorem end10_none (w : World) (cs : Array Value) (inn : Bool) (endp : Nat) (max : Int) (A : Option Addr) (n c : Nat) (many : Int) (h : TrAt cs inn endp max A n c many 0) :
    Calls Try.prog 20 #[.agg cs] w fun e w' => e = .returned (.tuple #[.slice none 0 0, .bool false]) ∧ Below w.heap.size w w' := by
  have hb := (Below.refl w.heap.size w).alloc (Nat.le_refl _) (.cells cs 50)
  have c5 := block_at (heap_alloc_new w (.cells cs 50)) h.a5
  replace hb := Lib.hid hb
  clear h
  go_enter Try.func20, Try.ntmps20
  go_wp2_with fail
  go_ret2
  exact ⟨rfl, hb.out⟩

set_option maxHeartbeats 1600000 in
theorem answer10_not (w : World) (cs : Array Value) (inn : Bool) (endp : Nat) (max : Int) (A : Option Addr) (n c : Nat) (many count : Int) (h : TrAt cs inn endp max A n c many count) (hno : ¬ count < sizeF inn n many) (r : Nat) (A2 : Option Addr) (n2 c2 : Nat) :
    Calls Try.prog 21 #[.agg cs, .agg #[.int .u8 r, .slice A2 n2 c2]] w fun e w' => e = .returned (.agg cs) ∧ Below w.heap.size w w' := by
  obtain ⟨b1, _, _, b4⟩ := two_boxes w (.cells cs 50) (.cells #[.int .u8 r, .slice A2 n2 c2] 64)
  have hz := zeroT_run
  have hP := heap_alloc_new ((w.alloc (.cells cs 50)).alloc (.cells #[.int .u8 r, .slice A2 n2 c2] 64)) (.cells zeroT 50)
  have b1' := (Below.heap_alloc ((w.alloc (.cells cs 50)).alloc (.cells #[.int .u8 r, .slice A2 n2 c2] 64)) (.cells zeroT 50) w.heap.size (by simp; omega)).trans b1
  have b4' := b4.alloc (by simp; omega) (.cells zeroT 50)
  have KU := under_any _ w.heap.size inn A n c many count (block_at b1' h.a0) (block_at b1' h.a3) (block_at b1' h.a4) (block_at b1' h.a5)
  rw [decide_eq_false hno] at KU
  rw [show ((w.alloc (.cells cs 50)).alloc (.cells #[.int .u8 r, .slice A2 n2 c2] 64)).heap.size = w.heap.size + 2 by simp] at hP
  have hsz := Lib.hid h.size
  have hon := Lib.hid h.one
  replace KU := Lib.hid KU
  replace hP := Lib.hid hP
  replace b1' := Lib.hid b1'
  replace b4' := Lib.hid b4'
  clear b1 b4 h hno
  go_enter Try.func21, Try.ntmps21
  go_wp2_with fail
  refine KU.out.mono ?_
  rintro e w' ⟨rfl, k, rfl⟩
  have hQ : ((((w.alloc (.cells cs 50)).alloc (.cells #[.int .u8 r, .slice A2 n2 c2] 64)).alloc (.cells zeroT 50)).drewN k).heap[w.heap.size + 2]? = _ := hP.out
  have hQ0 : ((((w.alloc (.cells cs 50)).alloc (.cells #[.int .u8 r, .slice A2 n2 c2] 64)).alloc (.cells zeroT 50)).drewN k).heap[w.heap.size]? = _ := b1'.out
  have hB := Lib.hid (below_drewN b4'.out k)
  generalize (((w.alloc (.cells cs 50)).alloc (.cells #[.int .u8 r, .slice A2 n2 c2] 64)).alloc (.cells zeroT 50)).drewN k = W at hQ hQ0 hB ⊢
  have hsW := block_lt hQ
  go_wp2_with (first
    | (refine wpl_loadB flatT rfl (.tmp 2) rfl w.heap.size rfl hQ0 hsz.out ?_)
    | (refine wpl_storeB flatT rfl (.tmp 4) (.tmp 7) rfl (w.heap.size + 2) rfl cs rfl hQ hsz.out zeroT_size hon.out ?_; intro w2 hQ2 hg2 hs2))
  refine bodyPost_ret (ret_cell flatT rfl _ (w.heap.size + 2) rfl hQ2 hsz.out) rfl ?_
  exact ⟨rfl, below_grown hB.out hg2 (by omega) (by omega)⟩
end Go.Proofs.Ytochkonjfhhiiaa
