/-
  Helper text: the walk of the law PeriodicsStart; no statement is proved here.
-/
import Derived.Test.YtochkonjfhhiiaaNi10
import Derived.Test.YtochkonjfhhiiaaErr10
import Derived.Test.YtochkonjfhhiiaaSt10
import Derived.Test.YtochkonjfhhiiaaLv10
namespace Go.Proofs.Ytochkonjfhhiiaa
open Go Go.RowKit

/-- The law's box of the plan, and the plan's packets. -/
structure PAt (w W : World) (inn : Bool) (endp : Nat) (max : Int) (A : Option Addr) (c : Nat) (ps : List (List UInt8)) (many : Int) : Prop where
  box : W.heap[w.heap.size]? = some (planC inn endp max A ps.length c many)
  rds : Rds W W.heap.size A c ps
  bel : Below w.heap.size w W
section
variable {w W W' : World} {inn : Bool} {endp : Nat} {max : Int} {A : Option Addr} {c : Nat} {ps : List (List UInt8)} {many : Int}
theorem PAt.new (hr : Rds w w.heap.size A c ps) : PAt w (w.alloc (planC inn endp max A ps.length c many)) inn endp max A c ps many :=
  ⟨heap_alloc_new w _, hr.belowTop ((Below.refl w.heap.size w).alloc (Nat.le_refl _) _), (Below.refl w.heap.size w).alloc (Nat.le_refl _) _⟩
theorem PAt.step (h : PAt w W inn endp max A c ps many) (hb : Below W.heap.size W W') : PAt w W' inn endp max A c ps many :=
  ⟨(hb.block _ (block_lt h.box)).trans h.box, h.rds.belowTop hb, h.bel.trans (hb.mono h.bel.size)⟩
theorem PAt.cells (h : PAt w W inn endp max A c ps many) : W.cell? ⟨w.heap.size, 0, none⟩ = some (.bool inn) ∧ W.cell? ⟨w.heap.size, 1, none⟩ = some (.int .u8 endp) ∧ W.cell? ⟨w.heap.size, 2, none⟩ = some (.int .i64 max) ∧ W.cell? ⟨w.heap.size, 3, none⟩ = some (.slice A ps.length c) ∧ W.cell? ⟨w.heap.size, 4, none⟩ = some (.int .i64 many) :=
  ⟨block_at h.box rfl, block_at h.box rfl, block_at h.box rfl, block_at h.box rfl, block_at h.box rfl⟩
end
/-- The law's box of the transfer. -/
structure TB (w W : World) (g : Nat) (cs : Array Value) : Prop where
  box : W.heap[g]? = some (.cells cs 50 (0, 0))
  ge : w.heap.size ≤ g
  bel : Below w.heap.size w W
section
variable {w W W' : World} {g k : Nat} {cs : Array Value}
theorem TB.step (h : TB w W g cs) (hb : Below W.heap.size W W') : TB w W' g cs :=
  ⟨(hb.block _ (block_lt h.box)).trans h.box, h.ge, h.bel.trans (hb.mono h.bel.size)⟩
theorem TB.alloc (h : TB w W g cs) (o : Obj) : TB w (W.alloc o) g cs := h.step ((Below.refl W.heap.size W).alloc (Nat.le_refl _) o)
theorem TB.drew (h : TB w W g cs) : TB w W.drew g cs := ⟨h.box, h.ge, h.bel.drew⟩
theorem TB.grown (h : TB w W g cs) (hg : W.grownBy W' (some k)) (hne : g ≠ k) (hk : w.heap.size ≤ k) : TB w W' g cs :=
  ⟨grown_block hg h.box (fun e => hne (by simpa using e)), h.ge, below_grown h.bel hg h.bel.size hk⟩
theorem TB.lt (h : TB w W g cs) : g < W.heap.size := block_lt h.box
/-- The box is made, and stored into. -/
theorem TB.made {old : Array Value} (h : Below w.heap.size w W) (hg : (W.alloc (.cells old 50)).grownBy W' (some W.heap.size)) (hb : W'.heap[W.heap.size]? = some (.cells cs 50 (0, 0))) : TB w W' W.heap.size cs :=
  ⟨hb, h.size, below_grown (h.alloc h.size _) hg (by have := h.size; simp; omega) h.size⟩
end

set_option maxHeartbeats 1600000 in
theorem lawSt_zero (w : World) (inn : Bool) (endp : Nat) (max : Int) (A : Option Addr) (c : Nat) (ps : List (List UInt8)) (many : Int) (hr : Rds w w.heap.size A c ps) (hs : smallB ps = true) (v : Int) (hv : errP inn endp max ps many = v) (hv0 : ¬ v = 0)
    (HS : ∀ W : World, Rds W W.heap.size A c ps → Calls Try.prog 18 #[planP inn endp max A ps.length c many] W fun e w' => e = .returned (.tuple #[.agg zeroT, .int .i64 v]) ∧ Below W.heap.size W w') :
    Calls Try.prog 7 #[planP inn endp max A ps.length c many] w fun e w' => e = .returned (.bool true) ∧ Below w.heap.size w w' := by
  have P0 := PAt.new (inn := inn) (endp := endp) (max := max) (many := many) hr
  have hr0 : Rds w w.heap.size A c ps := hr
  replace HS := Lib.hid HS
  replace P0 := Lib.hid P0
  clear hr
  go_enter Try.func7, Try.ntmps7
  go_wp2_with fail
  refine (small10_any _ inn endp max A c ps many P0.out.rds).mono ?_
  rw [hs]
  rintro e w1 ⟨rfl, hb1⟩
  have P1 := Lib.hid (P0.out.step hb1)
  obtain ⟨p0, p1, p2, p3, p4⟩ := P1.out.cells
  go_wp2_with fail
  refine (ref10_any _ inn endp max A c ps many P1.out.rds).mono ?_
  rw [hv]
  rintro e w2 ⟨rfl, hb2⟩
  have P2 := Lib.hid (P1.out.step hb2)
  clear p0 p1 p2 p3 p4
  obtain ⟨p0, p1, p2, p3, p4⟩ := P2.out.cells
  go_wp2_with fail
  refine (HS.out _ P2.out.rds).mono ?_
  rintro e w3 ⟨rfl, hb3⟩
  have P3 := Lib.hid (P2.out.step hb3)
  clear p0 p1 p2 p3 p4
  have hz := zeroT_run
  have hnew := Lib.hid (heap_alloc_new w3 (.cells zeroT 50))
  clear hb1 hb2 hb3 hr0 HS
  have hh : ∀ w4 : World, w4.heap[w3.heap.size]? = some (.cells zeroT 50 (0, 0)) → (w3.alloc (.cells zeroT 50)).grownBy w4 (some w3.heap.size) → TB w w4 w3.heap.size zeroT := fun w4 hQ4 hg4 => TB.made P3.out.bel hg4 hQ4
  have hge := P3.out.bel.size
  replace hh := Lib.hid hh
  go_wp2_with (refine wpl_storeB flatT rfl (.tmp 4) (.tmp 18) rfl w3.heap.size rfl zeroT rfl hnew.out zeroT_size zeroT_size zeroT_one ?_; intro w4 hQ4 hg4 hs4; refine Hid.out ?_)
  have T4 := hh.out w4 hQ4 hg4
  have hsz4 : w3.heap.size < w4.heap.size := T4.lt
  clear hh hQ4 hg4 hs4 hnew hz P3 P2 P1 P0
  generalize w3.heap.size = g at T4 hge hsz4 ⊢
  refine Lib.hid ?_
  replace T4 := Lib.hid T4
  go_wp2_with (refine wpl_loadB flatT rfl (.tmp 4) rfl g rfl T4.out.box zeroT_size ?_)
  refine (next10_not _ zeroT _ _ _ _ _ _ _ _ trAt_zero (by decide)).mono ?_
  rintro e w5 ⟨rfl, hb5⟩
  have T5 := T4.out.step hb5
  have hn5 := Lib.hid (heap_alloc_new w5 (.cells tryZ 55))
  clear hb5 T4 hsz4
  replace T5 := Lib.hid T5
  go_wp2_with (refine wpl_storeB flatY rfl (.tmp 6) (.tmp 26) rfl w5.heap.size rfl tryZ rfl hn5.out rfl rfl rfl ?_; intro w6 hQ6 hg6 hs6; refine Hid.out ?_)
  have T6 := (T5.out.alloc (.cells tryZ 55)).grown hg6 (by have := T5.out.lt; omega) T5.out.bel.size
  have hge5 := T5.out.bel.size
  clear hQ6 hg6 hs6 hn5 T5
  generalize w5.heap.size = g2 at hge5 ⊢
  refine Lib.hid ?_
  replace T6 := Lib.hid T6
  go_wp2_with (refine wpl_loadB flatT rfl (.tmp 4) rfl g rfl T6.out.box zeroT_size ?_)
  refine (end10_none _ zeroT _ _ _ _ _ _ _ trAt_zero).mono ?_
  rintro e w7 ⟨rfl, hb7⟩
  have T7 := T6.out.step hb7
  clear hb7 T6
  replace T7 := Lib.hid T7
  go_wp2_with (refine wpl_loadB flatT rfl (.tmp 4) rfl g rfl T7.out.box zeroT_size ?_)
  refine (answer10_not _ zeroT _ _ _ _ _ _ _ _ trAt_zero (by decide) _ _ _ _).mono ?_
  rintro e w8 ⟨rfl, hb8⟩
  have T8 := T7.out.step hb8
  clear hb8 T7
  replace T8 := Lib.hid T8
  go_wp2_with (refine wpl_storeB flatT rfl (.tmp 4) (.tmp 49) rfl g rfl zeroT rfl T8.out.box zeroT_size zeroT_size zeroT_one ?_; intro w9 hQ9 hg9 hs9; refine Hid.out ?_)
  have T9 : TB w w9 g zeroT := ⟨hQ9, T8.out.ge, below_grown T8.out.bel hg9 T8.out.bel.size T8.out.ge⟩
  clear hQ9 hg9 hs9 T8
  refine Lib.hid ?_
  replace T9 := Lib.hid T9
  go_wp2_with (refine wpl_loadB flatT rfl (.tmp 4) rfl g rfl T9.out.box zeroT_size ?_)
  refine (next10_not _ zeroT _ _ _ _ _ _ _ _ trAt_zero (by decide)).mono ?_
  rintro e w10 ⟨rfl, hb10⟩
  have T10 := T9.out.step hb10
  clear hb10 T9
  replace T10 := Lib.hid T10
  go_wp2_with (refine wpl_loadB flatT rfl (.tmp 4) rfl g rfl T10.out.box zeroT_size ?_)
  refine (end10_none _ zeroT _ _ _ _ _ _ _ trAt_zero).mono ?_
  rintro e w11 ⟨rfl, hb11⟩
  have T11 := T10.out.step hb11
  clear hb11 T10
  replace T11 := Lib.hid T11
  go_wp2_with fail
  refine (lives_any _).mono ?_
  rintro e w12 ⟨rfl, hb12⟩
  have T12 := T11.out.step hb12
  clear hb12 T11
  replace T12 := Lib.hid T12
  go_wp2_with fail
  go_ret
  exact ⟨rfl, T12.out.bel⟩

/-- A transfer that has begun, with an attempt to make. -/
structure Begun (w' : World) (cs : Array Value) : Prop where
  at_ : ∃ (inn : Bool) (endp : Nat) (max : Int) (A : Option Addr) (n c : Nat) (many : Int), TrAt cs inn endp max A n c many 0
  next : ∀ W' : World, Below w'.heap.size w' W' → Calls Try.prog 19 #[.agg cs] W' fun e w2 => (∃ ys : Array Value, e = .returned (.tuple #[.agg ys, .bool true]) ∧ ys.size = 7 ∧ ys.toList.all (·.oneCell') = true) ∧ Below W'.heap.size W' w2

set_option maxHeartbeats 1600000 in
theorem lawSt_ok (w : World) (inn : Bool) (endp : Nat) (max : Int) (A : Option Addr) (c : Nat) (ps : List (List UInt8)) (many : Int) (hr : Rds w w.heap.size A c ps) (hs : smallB ps = true) (hv : errP inn endp max ps many = 0)
    (HS : ∀ W : World, Rds W W.heap.size A c ps → Calls Try.prog 18 #[planP inn endp max A ps.length c many] W fun e w' => (∃ cs : Array Value, e = .returned (.tuple #[.agg cs, .int .i64 0]) ∧ Begun w' cs) ∧ Below W.heap.size W w') :
    Calls Try.prog 7 #[planP inn endp max A ps.length c many] w fun e w' => e = .returned (.bool true) ∧ Below w.heap.size w w' := by
  have P0 := PAt.new (inn := inn) (endp := endp) (max := max) (many := many) hr
  replace HS := Lib.hid HS
  replace P0 := Lib.hid P0
  clear hr
  go_enter Try.func7, Try.ntmps7
  go_wp2_with fail
  refine (small10_any _ inn endp max A c ps many P0.out.rds).mono ?_
  rw [hs]
  rintro e w1 ⟨rfl, hb1⟩
  have P1 := Lib.hid (P0.out.step hb1)
  obtain ⟨p0, p1, p2, p3, p4⟩ := P1.out.cells
  go_wp2_with fail
  refine (ref10_any _ inn endp max A c ps many P1.out.rds).mono ?_
  rw [hv]
  rintro e w2 ⟨rfl, hb2⟩
  have P2 := Lib.hid (P1.out.step hb2)
  clear p0 p1 p2 p3 p4
  obtain ⟨p0, p1, p2, p3, p4⟩ := P2.out.cells
  go_wp2_with fail
  refine (HS.out _ P2.out.rds).mono ?_
  rintro e w3 ⟨⟨cs, rfl, hbeg⟩, hb3⟩
  have P3 := Lib.hid (P2.out.step hb3)
  obtain ⟨inn', endp', max', A', n', c', many', hta⟩ := hbeg.at_
  clear p0 p1 p2 p3 p4
  have hz := zeroT_run
  have hnew := Lib.hid (heap_alloc_new w3 (.cells zeroT 50))
  clear hb1 hb2 hb3 HS
  have hh : ∀ w4 : World, w4.heap[w3.heap.size]? = some (.cells cs 50 (0, 0)) → (w3.alloc (.cells zeroT 50)).grownBy w4 (some w3.heap.size) → TB w w4 w3.heap.size cs := fun w4 hQ4 hg4 => TB.made P3.out.bel hg4 hQ4
  have hh2 : ∀ w4 : World, (w3.alloc (.cells zeroT 50)).grownBy w4 (some w3.heap.size) → Below w3.heap.size w3 w4 := fun w4 hg4 => below_grown ((Below.refl w3.heap.size w3).alloc (Nat.le_refl _) _) hg4 (by simp) (Nat.le_refl _)
  have hge := P3.out.bel.size
  replace hh := Lib.hid hh
  replace hh2 := Lib.hid hh2
  replace hbeg := Lib.hid hbeg
  replace hta := Lib.hid hta
  go_wp2_with (refine wpl_storeB flatT rfl (.tmp 4) (.tmp 18) rfl w3.heap.size rfl cs rfl hnew.out hta.out.size zeroT_size hta.out.one ?_; intro w4 hQ4 hg4 hs4; refine Hid.out ?_)
  have T4 := hh.out w4 hQ4 hg4
  have hnx := Lib.hid (hbeg.out.next w4 (hh2.out w4 hg4))
  have hsz4 : w3.heap.size < w4.heap.size := T4.lt
  clear hh hh2 hbeg hQ4 hg4 hs4 hnew hz P3 P2 P1 P0
  generalize w3.heap.size = g at T4 hge hsz4 ⊢
  refine Lib.hid ?_
  replace T4 := Lib.hid T4
  go_wp2_with (refine wpl_loadB flatT rfl (.tmp 4) rfl g rfl T4.out.box hta.out.size ?_)
  refine hnx.out.mono ?_
  rintro e w5 ⟨⟨ys, rfl, hy7, hy1⟩, hb5⟩
  have T5 := T4.out.step hb5
  have hn5 := Lib.hid (heap_alloc_new w5 (.cells tryZ 55))
  clear hb5 T4 hsz4 hnx
  replace T5 := Lib.hid T5
  go_wp2_with (refine wpl_storeB flatY rfl (.tmp 6) (.tmp 26) rfl w5.heap.size rfl ys rfl hn5.out hy7 rfl hy1 ?_; intro w6 hQ6 hg6 hs6; refine Hid.out ?_)
  have T6 := (T5.out.alloc (.cells tryZ 55)).grown hg6 (by have := T5.out.lt; omega) T5.out.bel.size
  have hge5 := T5.out.bel.size
  clear hQ6 hg6 hs6 hn5 T5
  generalize w5.heap.size = g2 at hge5 ⊢
  refine Lib.hid ?_
  replace T6 := Lib.hid T6
  go_wp2_with (refine wpl_loadB flatT rfl (.tmp 4) rfl g rfl T6.out.box hta.out.size ?_)
  refine (end10_none _ cs _ _ _ _ _ _ _ hta.out).mono ?_
  rintro e w7 ⟨rfl, hb7⟩
  have T7 := T6.out.step hb7
  clear hb7 T6
  replace T7 := Lib.hid T7
  go_wp2_with fail
  refine (lives_any _).mono ?_
  rintro e w12 ⟨rfl, hb12⟩
  have T12 := T7.out.step hb12
  clear hb12 T7
  replace T12 := Lib.hid T12
  go_wp2_with fail
  go_ret
  exact ⟨rfl, T12.out.bel⟩

theorem lawSt_big (w : World) (inn : Bool) (endp : Nat) (max : Int) (A : Option Addr) (c : Nat) (ps : List (List UInt8)) (many : Int) (hr : Rds w w.heap.size A c ps) (hs : smallB ps = false) :
    Calls Try.prog 7 #[planP inn endp max A ps.length c many] w fun e w' => e = .returned (.bool true) ∧ Below w.heap.size w w' := by
  have P0 := PAt.new (inn := inn) (endp := endp) (max := max) (many := many) hr
  replace P0 := Lib.hid P0
  clear hr
  go_enter Try.func7, Try.ntmps7
  go_wp2_with fail
  refine (small10_any _ inn endp max A c ps many P0.out.rds).mono ?_
  rw [hs]
  rintro e w1 ⟨rfl, hb1⟩
  have P1 := Lib.hid (P0.out.step hb1)
  clear hb1
  go_wp2_with fail
  go_ret
  exact ⟨rfl, P1.out.bel⟩

theorem smallB_len {ps : List (List UInt8)} (h : smallB ps = true) : ps.length ≤ 300 := by
  simp only [smallB, Bool.and_eq_true, List.all_eq_true, decide_eq_true_eq] at h
  exact h.1
theorem smallB_each {ps : List (List UInt8)} (h : smallB ps = true) (j : Nat) : (ps.getD j []).length ≤ 100 := by
  rcases Nat.lt_or_ge j ps.length with hj | hj
  · rcases Nat.lt_or_ge 100 (ps.getD j []).length with h2 | h2
    · have := smallB_at hj h2
      rw [this] at h
      exact absurd h (by decide)
    · exact h2
  · have e : ps.getD j [] = [] := by simp [List.getD, List.getElem?_eq_none hj]
    rw [e]; simp
theorem okF_iff {inn : Bool} {endp : Nat} {max : Int} {n : Nat} {many : Int} (h : okF inn endp max n many = true) : (inn = true ∧ n = 0 ∧ 1 ≤ many) ∨ (inn = false ∧ 0 < n ∧ many = 0) := by
  simp only [okF, Bool.and_eq_true] at h
  obtain ⟨_, h⟩ := h
  cases inn
  · right; simpa using h
  · left; simpa using h

theorem lawSt_any (w : World) (inn : Bool) (endp : Nat) (max : Int) (A : Option Addr) (c : Nat) (ps : List (List UInt8)) (many : Int) (hr : Rds w w.heap.size A c ps) :
    Calls Try.prog 7 #[planP inn endp max A ps.length c many] w fun e w' => e = .returned (.bool true) ∧ Below w.heap.size w w' := by
  cases hs : smallB ps with
  | false => exact lawSt_big w inn endp max A c ps many hr hs
  | true =>
    have hlen := smallB_len hs
    have heach := smallB_each hs
    cases ho : okF inn endp max ps.length many with
    | false => exact lawSt_zero w inn endp max A c ps many hr hs 1 (errP_bad ho) (by decide) fun W _ => start10_bad W inn endp max A ps.length c many ho
    | true =>
      by_cases hl : 256 < many ∨ 256 < ps.length ∨ anyLong max ps = true
      · refine lawSt_zero w inn endp max A c ps many hr hs 3 (errP_lim ho hl) (by decide) fun W hW => start10_lim W inn endp max A c ps many hW ho ?_
        by_cases h1 : 256 < sizeF inn ps.length many
        · exact .inl h1
        · refine .inr ⟨h1, ?_⟩
          rcases okF_iff ho with ⟨rfl, h2, h3⟩ | ⟨rfl, h2, h3⟩
          · have h1' : ¬ 256 < many := h1
            rcases hl with h4 | h4 | h4
            · omega
            · omega
            · exact h4
          · have h1' : ¬ 256 < (ps.length : Int) := h1
            rcases hl with h4 | h4 | h4
            · omega
            · omega
            · exact h4
      · have hl1 : ¬ 256 < many := fun h => hl (.inl h)
        have hl2 : ¬ 256 < ps.length := fun h => hl (.inr (.inl h))
        have hl3 : anyLong max ps = false := by
          cases h : anyLong max ps with
          | false => rfl
          | true => exact absurd (.inr (.inr h)) hl
        refine lawSt_ok w inn endp max A c ps many hr hs (errP_ok ho hl) fun W hW => ?_
        refine (start10_good W inn endp max A c ps many hW ho ?_ hl3 (by omega) (fun j => by have := heach j; omega)).mono ?_
        · rcases okF_iff ho with ⟨rfl, h2, h3⟩ | ⟨rfl, h2, h3⟩
          · exact hl1
          · show ¬ 256 < (ps.length : Int); omega
        · rintro e w' ⟨g, rfl, hrd, hb⟩
          refine ⟨⟨_, rfl, ⟨⟨inn, endp, max, _, _, _, many, trAt_new inn endp max _ _ _ many⟩, fun W' hb' => ?_⟩⟩, hb⟩
          rcases okF_iff ho with ⟨rfl, h2, h3⟩ | ⟨rfl, h2, h3⟩
          · exact next10_in W' _ endp max _ _ _ many 0 (trAt_new true endp max _ _ _ many) (by omega)
          · exact next10_out W' _ endp max _ _ many ps (trAt_new false endp max _ _ _ many) h2 (hrd.belowTop hb') (fun j => by have := heach j; omega)
end Go.Proofs.Ytochkonjfhhiiaa
