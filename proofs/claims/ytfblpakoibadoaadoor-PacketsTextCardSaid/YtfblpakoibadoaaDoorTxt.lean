/-
  Helper text: words and their texts; no statement is proved here.
-/
import Derived.Test.YtfblpakoibadoaaDoorChk
import Derived.Test.YtfblpakoibadoaaDoorShelf
namespace Go.Proofs.YtfblpakoibadoaaDoor
open Go Go.RowKit

theorem Tryd.info9s : (Tryd.prog.info? 9).map (fun i => (i.zero, i.size, i.bytes)) = some (some (.string ByteArray.empty), 1, 16) := by kernel_rfl
/-- append of one string to a slice of strings of the call's own. -/
theorem wpl_appendS1 {P : Program} {ops : Array Oper} {rest : List Oper} {o : Oper} {a : Act} {Q : Exit → Act → World → Prop} {w : World} {t e : TypeId} (ht : P.underlying t = some (.slice e))
    (hinf : (P.info? e).map (fun i => (i.zero, i.size, i.bytes)) = some (some (.string ByteArray.empty), 1, 16)) (hgd : o.guard = none) (s x : Operand)
    (ho : o.op = .call { callee := .builtin .append, args := #[s, x], argTypes := #[t, t] })
    (base : Nat) (v : Value) (zs : List (List UInt8)) (hs : a.eval s = v) (hown : w.ownsRow base e 1 v zs.length (zs.map sv)) (y : List UInt8)
    (hx : a.eval x = .slice (some ⟨w.heap.size, 0, none⟩) 1 1) (hl : zs.length ≤ 1000000) (hbase : base ≤ w.heap.size)
    (h : ∀ v' w', w'.ownsRow base e 1 v' (zs ++ [y]).length ((zs ++ [y]).map sv) → Below base w w' → wpList P ops Q rest (a.put o.dst v') w') :
    wpList P ops Q (o :: rest) a (w.alloc (.cells #[sv y] e)) := by
  obtain ⟨i0, hi, hz0, hz1, hz2⟩ := info_parts hinf
  refine wpList_append_own _ hgd s x t ho base e i0 (.string ByteArray.empty) 1 16 ht hi hz0 hz1 hz2 rfl (by decide) v zs.length (zs.map sv) hs (hown.alloc _) ⟨w.heap.size, 0, none⟩ 1 1 [sv y] hx rfl (cell_one_new _ _ _)
    (fun z hz => by simp at hz; subst hz; rfl) (by unfold maxLen; omega) (by omega) (by simp; omega) fun v' w' h1 h2 _ => h v' w' (by simpa using h1) ?_
  exact ((Below.refl base w).alloc hbase _).grown h2 (by simp; omega) fun k hk => (hown.lt k hk).1
theorem own_base' {w : World} {base base' t : Nat} {v : Value} {n : Nat} {vs : List Value} (h : w.ownsRow base t 1 v n vs) (hb : base' ≤ base) : w.ownsRow base' t 1 v n vs := own_base h hb
/-- A row of strings that the call has just built. -/
theorem ownS_built (w : World) (e : TypeId) (zs : List (List UInt8)) (hl : zs.length ≤ 1000000) : (w.alloc (.cells (zs.map sv).toArray e)).ownsRow w.heap.size e 1 (.slice (some ⟨w.heap.size, 0, none⟩) zs.length zs.length) zs.length (zs.map sv) :=
  ⟨by simp, .inr ⟨w.heap.size, zs.length, _, rfl, Nat.le_refl _, heap_alloc_new w _, Nat.le_refl _, by unfold maxLen; omega, by simp, by simp; rw [List.take_of_length_le (by simp)]⟩⟩
/-- A slice of strings of the call's own is returned. -/
def ResW (w : World) (zs : List (List UInt8)) (e : Ending) (w' : World) : Prop := ∃ v, e = .returned v ∧ w'.ownsRow w.heap.size 9 1 v zs.length (zs.map sv) ∧ Below w.heap.size w w'
/-- A string is returned. -/
def ResS (w : World) (s : List UInt8) (e : Ending) (w' : World) : Prop := e = .returned (sv s) ∧ Below w.heap.size w w'

/-- The join of words of the call's own that are not none. -/
theorem join_own (w : World) (base : Nat) (v : Value) (zs : List (List UInt8)) (hown : w.ownsRow base 9 1 v zs.length (zs.map sv)) (h0 : 0 < zs.length) (hl : (Lib.join zs [32]).length ≤ 1000000) (hz : zs.length ≤ 1000) :
    Calls Tryd.prog 15 #[v, .string ⟨#[32]⟩] w (ResS w (Lib.join zs [32])) := by
  obtain ⟨_, h2⟩ := hown
  rcases h2 with ⟨_, hn⟩ | ⟨g, cap, cur, rfl, _, hh, hle, _, hcs, ht⟩
  · omega
  · have hm : (zs.map fun x => (⟨x.toArray⟩ : ByteArray)).map (·.data.toList) = zs := by
      rw [List.map_map]
      exact List.map_id' zs
    have := Tryd.strings_Join g 0 cap (zs.map fun x => (⟨x.toArray⟩ : ByteArray)) ⟨#[32]⟩ w (fun j x hx => by
      rw [Nat.zero_add, cell_of_row w g j cur 9 (0, 0) hh]
      have hj : j < zs.length := by
        have := (List.getElem?_eq_some_iff.1 hx).1
        simpa using this
      have hx2 : (cur.toList.take (zs.length * 1))[j]? = (zs.map sv)[j]? := by rw [ht]
      rw [List.getElem?_take, if_pos (by omega)] at hx2
      rw [← Array.getElem?_toList, hx2, List.getElem?_map, List.getElem?_eq_getElem hj]
      rw [List.getElem?_map, List.getElem?_eq_getElem hj] at hx
      simp only [Option.map_some, Option.some.injEq] at hx ⊢
      rw [← hx]) (Array.getElem?_eq_some_iff.1 hh).1 (by simp; omega) (by simpa using hle) (by rw [hm]; exact Nat.le_trans hl (by decide))
    rw [hm, List.length_map] at this
    exact this

set_option maxHeartbeats 800000 in
set_option maxRecDepth 100000 in
theorem words_sof (w : World) (hL : Laid w) (r : Rg) (A : Option Addr) (n c : Nat) (hd : r.data = .slice A n c) (hp : r.pid = 5) (hf : r.frame < 100) :
    Calls Tryd.prog 16 #[.agg (pcells r)] w (ResW w [[115, 111, 102], Lib.decDigits r.frame]) := by
  obtain ⟨p0, p1, p2, p3, p4, p5, p6, p7, p8, p9, p10⟩ := r
  simp only at hd hp hf
  subst hd; subst hp
  simp only [pcells]
  have KI := Lib.hid fun W => Tryd.strconv_Itoa_small p3 hf W
  have hbW := (Below.refl w.heap.size w).alloc (Nat.le_refl _) (.cells #[.int .u8 5, .int .u8 (p1 : Int), .int .u8 (p2 : Int), .int .u16 (p3 : Int), .int .u8 (p4 : Int), .int .u8 (p5 : Int), .bool p6, .bool p7, .int .u8 (p8 : Int), .slice A n c] 29)
  have hb2 := Lib.hid (hbW.alloc hbW.size (.cells #[sv [115, 111, 102]] 9))
  have cN : (w.alloc (.cells #[.int .u8 5, .int .u8 (p1 : Int), .int .u8 (p2 : Int), .int .u16 (p3 : Int), .int .u8 (p4 : Int), .int .u8 (p5 : Int), .bool p6, .bool p7, .int .u8 (p8 : Int), .slice A n c] 29)).cell? ⟨0, 5, none⟩ = some (sv [115, 111, 102]) := (hL.below hbW).pid 5 (by decide)
  have hown := ownS_built (w.alloc (.cells #[.int .u8 5, .int .u8 (p1 : Int), .int .u8 (p2 : Int), .int .u16 (p3 : Int), .int .u8 (p4 : Int), .int .u8 (p5 : Int), .bool p6, .bool p7, .int .u8 (p8 : Int), .slice A n c] 29)) 9 [[115, 111, 102]] (by decide)
  have hownh := Lib.hid hown
  have hbs := Lib.hid hbW.size
  clear hL hown hbW
  go_enter Tryd.func16, Tryd.ntmps16
  go_wp2_with fail
  refine (KI.out _).mono ?_
  rintro e w1 ⟨rfl, rfl⟩
  clear cN
  have hsz2 := Lib.hid (show (w.alloc (.cells #[.int .u8 5, .int .u8 (p1 : Int), .int .u8 (p2 : Int), .int .u16 (p3 : Int), .int .u8 (p4 : Int), .int .u8 (p5 : Int), .bool p6, .bool p7, .int .u8 (p8 : Int), .slice A n c] 29)).heap.size = w.heap.size + 1 by simp)
  replace hownh : Hid (((w.alloc (.cells #[.int .u8 5, .int .u8 (p1 : Int), .int .u8 (p2 : Int), .int .u16 (p3 : Int), .int .u8 (p4 : Int), .int .u8 (p5 : Int), .bool p6, .bool p7, .int .u8 (p8 : Int), .slice A n c] 29)).alloc (.cells #[sv [115, 111, 102]] 9)).ownsRow (w.heap.size + 1) 9 1 (.slice (some ⟨w.heap.size + 1, 0, none⟩) 1 1) ([[115, 111, 102]] : List (List UInt8)).length (([[115, 111, 102]] : List (List UInt8)).map sv)) := by
    have h := hownh.out
    rw [hsz2.out] at h
    exact h
  have hle := Lib.hid (show w.heap.size + 1 ≤ ((w.alloc (.cells #[.int .u8 5, .int .u8 (p1 : Int), .int .u8 (p2 : Int), .int .u16 (p3 : Int), .int .u8 (p4 : Int), .int .u8 (p5 : Int), .bool p6, .bool p7, .int .u8 (p8 : Int), .slice A n c] 29)).alloc (.cells #[sv [115, 111, 102]] 9)).heap.size by simp)
  generalize ((w.alloc (.cells #[.int .u8 5, .int .u8 (p1 : Int), .int .u8 (p2 : Int), .int .u16 (p3 : Int), .int .u8 (p4 : Int), .int .u8 (p5 : Int), .bool p6, .bool p7, .int .u8 (p8 : Int), .slice A n c] 29)).alloc (.cells #[sv [115, 111, 102]] 9)) = W2 at hownh hle hb2 ⊢
  obtain ⟨ds, hds⟩ : ∃ ds, Lib.decDigits p3 = ds := ⟨_, rfl⟩
  have hdh := Lib.hid hds
  rw [hds]
  clear hds
  go_wp2_with (at_builtin; refine wpl_appendS1 (w := W2) Tryd.underlying48 Tryd.info9s rfl (.tmp 25) (.tmp 30) rfl (w.heap.size + 1) (.slice (some ⟨w.heap.size + 1, 0, none⟩) 1 1) [[115, 111, 102]] rfl hownh.out ds rfl (by decide) hle.out ?_; intro v' w' hown2 hbel)
  go_ret
  refine ⟨_, rfl, ?_, hb2.out.trans (hbel.mono (Nat.le_succ _))⟩
  rw [hdh.out]
  exact own_base' hown2 (Nat.le_succ _)

set_option maxHeartbeats 800000 in
set_option maxRecDepth 100000 in
theorem text_core (w : World) (hL : Laid w) (r : Rg) (ok : r.Ok) (A : Option Addr) (c : Nat) (xs : List UInt8) (hx : Rd w w.heap.size A c xs) (hd : r.data = .slice A xs.length c) (hE : errR r xs = 0) (zs : List (List UInt8)) (h0 : 0 < zs.length) (hz : zs.length ≤ 1000) (hl : (Lib.join zs [32]).length ≤ 1000000)
    (KT : ∀ W, Laid W → Rd W W.heap.size A c xs → Calls Tryd.prog 16 #[.agg (pcells r)] W (ResW W zs)) :
    Calls Tryd.prog 9 #[.agg (pcells r)] w (ResS w (Lib.join zs [32])) := by
  have KC := Lib.hid fun W hLW hRW => check_any W hLW r ok A c xs hRW hd
  rw [hE] at KC
  have KTh := Lib.hid KT
  have KJ := Lib.hid fun W base v hW => join_own W base v zs hW h0 hl hz
  obtain ⟨p0, p1, p2, p3, p4, p5, p6, p7, p8, p9, p10⟩ := r
  simp only at hd
  subst hd
  simp only [pcells] at KC KTh ⊢
  clear ok hE KT h0 hl hz
  have hbW := (Below.refl w.heap.size w).alloc (Nat.le_refl _) (.cells #[.int .u8 (p0 : Int), .int .u8 (p1 : Int), .int .u8 (p2 : Int), .int .u16 (p3 : Int), .int .u8 (p4 : Int), .int .u8 (p5 : Int), .bool p6, .bool p7, .int .u8 (p8 : Int), .slice A xs.length c] 29)
  have hbWh := Lib.hid hbW
  have hb0 := heap_alloc_new w (.cells #[.int .u8 (p0 : Int), .int .u8 (p1 : Int), .int .u8 (p2 : Int), .int .u16 (p3 : Int), .int .u8 (p4 : Int), .int .u8 (p5 : Int), .bool p6, .bool p7, .int .u8 (p8 : Int), .slice A xs.length c] 29)
  have hLh := Lib.hid hL
  have hxh := Lib.hid hx
  clear hL hx hbW
  go_enter Tryd.func9, Tryd.ntmps9
  go_wp2_with fail
  refine (KC.out _ (hLh.out.below hbWh.out) (hxh.out.belowTop hbWh.out)).mono ?_
  rintro e w1 ⟨rfl, hB1⟩
  have hb1 := Lib.hid ((hB1.block _ (lt_of_block hb0)).trans hb0)
  have hB1h := Lib.hid (hbWh.out.trans (hB1.mono hbWh.out.size))
  clear hb0 hB1
  have c0 : w1.cell? ⟨w.heap.size, 0, none⟩ = some (.int .u8 (p0 : Int)) := cell_at hb1.out 0
  have c1 : w1.cell? ⟨w.heap.size, 1, none⟩ = some (.int .u8 (p1 : Int)) := cell_at hb1.out 1
  have c2 : w1.cell? ⟨w.heap.size, 2, none⟩ = some (.int .u8 (p2 : Int)) := cell_at hb1.out 2
  have c3 : w1.cell? ⟨w.heap.size, 3, none⟩ = some (.int .u16 (p3 : Int)) := cell_at hb1.out 3
  have c4 : w1.cell? ⟨w.heap.size, 4, none⟩ = some (.int .u8 (p4 : Int)) := cell_at hb1.out 4
  have c5 : w1.cell? ⟨w.heap.size, 5, none⟩ = some (.int .u8 (p5 : Int)) := cell_at hb1.out 5
  have c6 : w1.cell? ⟨w.heap.size, 6, none⟩ = some (.bool p6) := cell_at hb1.out 6
  have c7 : w1.cell? ⟨w.heap.size, 7, none⟩ = some (.bool p7) := cell_at hb1.out 7
  have c8 : w1.cell? ⟨w.heap.size, 8, none⟩ = some (.int .u8 (p8 : Int)) := cell_at hb1.out 8
  have c9 : w1.cell? ⟨w.heap.size, 9, none⟩ = some (.slice A xs.length c) := cell_at hb1.out 9
  go_wp2_with fail
  refine (KTh.out _ (hLh.out.below hB1h.out) (hxh.out.belowTop hB1h.out)).mono ?_
  rintro e w2 ⟨v, rfl, hown, hB2⟩
  have hB2h := Lib.hid (hB1h.out.trans (hB2.mono hB1h.out.size))
  have hownh := Lib.hid hown
  clear hown hB2 hb1 c0 c1 c2 c3 c4 c5 c6 c7 c8 c9
  go_wp2_with fail
  refine (KJ.out w2 _ v hownh.out).mono ?_
  rintro e w3 ⟨rfl, hB3⟩
  have hB3h := Lib.hid (hB2h.out.trans (hB3.mono hB2h.out.size))
  clear hB3
  go_wp2
  go_ret
  exact ⟨rfl, hB3h.out⟩

set_option maxHeartbeats 800000 in
set_option maxRecDepth 100000 in
theorem text_bad (w : World) (hL : Laid w) (r : Rg) (ok : r.Ok) (A : Option Addr) (c : Nat) (xs : List UInt8) (hx : Rd w w.heap.size A c xs) (hd : r.data = .slice A xs.length c) (hE : errR r xs ≠ 0) :
    Calls Tryd.prog 9 #[.agg (pcells r)] w (ResS w []) := by
  have KC := Lib.hid fun W hLW hRW => check_any W hLW r ok A c xs hRW hd
  obtain ⟨E, hEv⟩ : ∃ E, errR r xs = E := ⟨_, rfl⟩
  rw [hEv] at KC hE
  obtain ⟨p0, p1, p2, p3, p4, p5, p6, p7, p8, p9, p10⟩ := r
  simp only at hd
  subst hd
  simp only [pcells] at KC ⊢
  clear ok hEv
  have t0 : ((E : Int) == 0) = false := by rw [beq_eq_false_iff_ne]; omega
  have t1 : ((E : Int) != 0) = true := by rw [bne, t0]; rfl
  clear t0
  have hbWh := Lib.hid ((Below.refl w.heap.size w).alloc (Nat.le_refl _) (.cells #[.int .u8 (p0 : Int), .int .u8 (p1 : Int), .int .u8 (p2 : Int), .int .u16 (p3 : Int), .int .u8 (p4 : Int), .int .u8 (p5 : Int), .bool p6, .bool p7, .int .u8 (p8 : Int), .slice A xs.length c] 29))
  have hLh := Lib.hid hL
  have hxh := Lib.hid hx
  clear hL hx
  go_enter Tryd.func9, Tryd.ntmps9
  go_wp2_with fail
  refine (KC.out _ (hLh.out.below hbWh.out) (hxh.out.belowTop hbWh.out)).mono ?_
  rintro e w1 ⟨rfl, hb⟩
  have hb := Lib.hid (hbWh.out.trans (hb.mono hbWh.out.size))
  go_wp2
  go_ret
  exact ⟨rfl, hb.out⟩
theorem text_sof (w : World) (hL : Laid w) (r : Rg) (ok : r.Ok) (A : Option Addr) (c : Nat) (xs : List UInt8) (hx : Rd w w.heap.size A c xs) (hd : r.data = .slice A xs.length c) (hE : errR r xs = 0) (hp : r.pid = 5) (hf : r.frame < 100) (hl : (Lib.join [[115, 111, 102], Lib.decDigits r.frame] [32]).length ≤ 1000000) :
    Calls Tryd.prog 9 #[.agg (pcells r)] w (ResS w (Lib.join [[115, 111, 102], Lib.decDigits r.frame] [32])) :=
  text_core w hL r ok A c xs hx hd hE _ (by simp) (by simp) hl (fun W hLW _ => words_sof W hLW r A xs.length c hd hp hf)

end Go.Proofs.YtfblpakoibadoaaDoor
