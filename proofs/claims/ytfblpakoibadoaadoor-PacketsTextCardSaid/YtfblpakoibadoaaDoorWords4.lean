/-
  Helper text: the words of all packets; no statement is proved here.
-/
import Derived.Test.YtfblpakoibadoaaDoorWords3
namespace Go.Proofs.YtfblpakoibadoaaDoor
open Go Go.RowKit

/-- append of a row of strings of the call's own to another. -/
theorem wpl_appendSS {P : Program} {ops : Array Oper} {rest : List Oper} {o : Oper} {a : Act} {Q : Exit → Act → World → Prop} {w : World} {t e : TypeId} (ht : P.underlying t = some (.slice e))
    (hinf : (P.info? e).map (fun i => (i.zero, i.size, i.bytes)) = some (some (.string ByteArray.empty), 1, 16)) (hgd : o.guard = none) (s x : Operand)
    (ho : o.op = .call { callee := .builtin .append, args := #[s, x], argTypes := #[t, t] })
    (base : Nat) (v : Value) (zs : List (List UInt8)) (hs : a.eval s = v) (hown : w.ownsRow base e 1 v zs.length (zs.map sv)) (base2 : Nat) (v2 : Value) (ys : List (List UInt8))
    (hx : a.eval x = v2) (hown2 : w.ownsRow base2 e 1 v2 ys.length (ys.map sv)) (hy : 0 < ys.length) (hyl : ys.length ≤ 1000000) (hl : zs.length ≤ 1000000) (hbase : base ≤ w.heap.size)
    (h : ∀ v' w', w'.ownsRow base e 1 v' (zs ++ ys).length ((zs ++ ys).map sv) → Below base w w' → wpList P ops Q rest (a.put o.dst v') w') :
    wpList P ops Q (o :: rest) a w := by
  obtain ⟨i0, hi, hz0, hz1, hz2⟩ := info_parts hinf
  obtain ⟨_, h2⟩ := hown2
  rcases h2 with ⟨_, hn⟩ | ⟨g, cap, cur, rfl, hg, hh, hle, _, hcs, ht2⟩
  · omega
  · refine wpList_append_own _ hgd s x t ho base e i0 (.string ByteArray.empty) 1 16 ht hi hz0 hz1 hz2 rfl (by decide) v zs.length (zs.map sv) hs hown ⟨g, 0, none⟩ ys.length cap (ys.map sv) hx (by simp) (fun j u hu => ?_)
      (fun z hz => by obtain ⟨y, _, rfl⟩ := List.mem_map.1 hz; rfl) (by unfold maxLen; omega) (by omega) hbase fun v' w' h1 h2 _ => h v' w' (by simpa using h1) ?_
    · have hadd : (⟨g, 0, none⟩ : Addr).add j = ⟨g, j, none⟩ := by unfold Addr.add; split <;> simp_all
      rw [hadd, cell_of_row w g j cur e (0, 0) hh]
      have hj : j < ys.length := by
        have := (List.getElem?_eq_some_iff.1 hu).1
        simpa using this
      have hx2 : (cur.toList.take (ys.length * 1))[j]? = (ys.map sv)[j]? := by rw [ht2]
      rw [hu, List.getElem?_take_of_lt (by omega)] at hx2
      simpa using hx2
    · exact (Below.refl base w).grown h2 hbase fun k hk => (hown.lt k hk).1

theorem split_any (w : World) (hL : Laid w) (h p k : Nat) (c l : Bool) (hh : h < 256) (hp : p < 256) (hk : k < 4) :
    Calls Tryd.prog 33 #[.agg #[.int .u8 (h : Int), .int .u8 (p : Int), .bool c, .bool l, .int .u8 (k : Int)]] w
      (ResW w ([stepL.getD c.toNat [], Lib.decDigits h ++ [46] ++ Lib.decDigits p, kindL.getD k []] ++ (bif l then [[108, 111, 119]] else []))) := by
  cases c <;> cases l
  · exact split_false_false w hL h p k hh hp hk
  · exact split_false_true w hL h p k hh hp hk
  · exact split_true_false w hL h p k hh hp hk
  · exact split_true_true w hL h p k hh hp hk

set_option maxHeartbeats 1600000 in
set_option maxRecDepth 100000 in
theorem words_split (w : World) (hL : Laid w) (r : Rg) (ok : r.Ok) (hk : r.kind < 4) (A : Option Addr) (n c : Nat) (hd : r.data = .slice A n c) (hp : r.pid = 8) (xs : List UInt8) :
    Calls Tryd.prog 16 #[.agg (pcells r)] w (ResW w (wordsL r xs)) := by
  have hw : wordsL r xs = [pidL.getD r.pid []] ++ splitL r := by
    unfold wordsL; rw [if_neg (by omega), if_neg (by omega), if_pos hp]
  have hs3 : 0 < (splitL r).length ∧ (splitL r).length ≤ 4 := by
    unfold splitL; cases r.low <;> simp
  have KP := Lib.hid fun W hLW => split_any W hLW r.hub r.port r.kind r.comp r.low ok.hub ok.port hk
  rw [hw]
  change Hid (∀ W, Laid W → Calls _ _ _ W (ResW W (splitL r))) at KP
  generalize splitL r = zs at KP hs3 ⊢
  obtain ⟨p0, p1, p2, p3, p4, p5, p6, p7, p8, p9, p10⟩ := r
  simp only at hd hp KP
  clear hw ok hk
  subst hd
  subst hp
  simp only [pcells]
  have hbW := (Below.refl w.heap.size w).alloc (Nat.le_refl _) (.cells #[.int .u8 8, .int .u8 (p1 : Int), .int .u8 (p2 : Int), .int .u16 (p3 : Int), .int .u8 (p4 : Int), .int .u8 (p5 : Int), .bool p6, .bool p7, .int .u8 (p8 : Int), .slice A n c] 29)
  have hb2 := Lib.hid (hbW.alloc hbW.size (.cells #[sv [115, 112, 108, 105, 116]] 9))
  have cN : (w.alloc (.cells #[.int .u8 8, .int .u8 (p1 : Int), .int .u8 (p2 : Int), .int .u16 (p3 : Int), .int .u8 (p4 : Int), .int .u8 (p5 : Int), .bool p6, .bool p7, .int .u8 (p8 : Int), .slice A n c] 29)).cell? ⟨0, 8, none⟩ = some (sv [115, 112, 108, 105, 116]) := (hL.below hbW).pid 8 (by decide)
  have hown : ((w.alloc (.cells #[.int .u8 8, .int .u8 (p1 : Int), .int .u8 (p2 : Int), .int .u16 (p3 : Int), .int .u8 (p4 : Int), .int .u8 (p5 : Int), .bool p6, .bool p7, .int .u8 (p8 : Int), .slice A n c] 29)).alloc (.cells #[sv [115, 112, 108, 105, 116]] 9)).ownsRow (w.heap.size + 1) 9 1 (.slice (some ⟨w.heap.size + 1, 0, none⟩) 1 1) ([[115, 112, 108, 105, 116]] : List (List UInt8)).length (([[115, 112, 108, 105, 116]] : List (List UInt8)).map sv) := by
    have h := ownS_built (w.alloc (.cells #[.int .u8 8, .int .u8 (p1 : Int), .int .u8 (p2 : Int), .int .u16 (p3 : Int), .int .u8 (p4 : Int), .int .u8 (p5 : Int), .bool p6, .bool p7, .int .u8 (p8 : Int), .slice A n c] 29)) 9 [[115, 112, 108, 105, 116]] (by decide)
    rw [show (w.alloc (.cells #[.int .u8 8, .int .u8 (p1 : Int), .int .u8 (p2 : Int), .int .u16 (p3 : Int), .int .u8 (p4 : Int), .int .u8 (p5 : Int), .bool p6, .bool p7, .int .u8 (p8 : Int), .slice A n c] 29)).heap.size = w.heap.size + 1 by simp] at h
    exact h
  have hownh := Lib.hid hown
  have hle := Lib.hid (show w.heap.size + 1 ≤ ((w.alloc (.cells #[.int .u8 8, .int .u8 (p1 : Int), .int .u8 (p2 : Int), .int .u16 (p3 : Int), .int .u8 (p4 : Int), .int .u8 (p5 : Int), .bool p6, .bool p7, .int .u8 (p8 : Int), .slice A n c] 29)).alloc (.cells #[sv [115, 112, 108, 105, 116]] 9)).heap.size by simp)
  have hL2 := Lib.hid (hL.below hb2.out)
  have hs3h := Lib.hid hs3
  clear hown hbW hL hs3
  go_enter Tryd.func16, Tryd.ntmps16
  go_wp2_with fail
  have hKC := KP.out ((w.alloc (.cells #[.int .u8 8, .int .u8 (p1 : Int), .int .u8 (p2 : Int), .int .u16 (p3 : Int), .int .u8 (p4 : Int), .int .u8 (p5 : Int), .bool p6, .bool p7, .int .u8 (p8 : Int), .slice A n c] 29)).alloc (.cells #[sv [115, 112, 108, 105, 116]] 9)) hL2.out
  generalize ((w.alloc (.cells #[.int .u8 8, .int .u8 (p1 : Int), .int .u8 (p2 : Int), .int .u16 (p3 : Int), .int .u8 (p4 : Int), .int .u8 (p5 : Int), .bool p6, .bool p7, .int .u8 (p8 : Int), .slice A n c] 29)).alloc (.cells #[sv [115, 112, 108, 105, 116]] 9)) = W2 at hownh hle hb2 hL2 hKC ⊢
  refine hKC.mono ?_
  rintro e w3 ⟨v2, rfl, o3, b3⟩
  have hown3 := own_below' hownh.out b3
  have hle3 := Nat.le_trans hle.out b3.size
  have hb3 := Lib.hid (hb2.out.trans (b3.mono hb2.out.size))
  have o3h := Lib.hid o3
  have hown3h := Lib.hid hown3
  have hle3h := Lib.hid hle3
  clear cN b3 hownh hle hb2 hKC o3 hown3 hle3 KP
  go_wp2_with (at_builtin; refine wpl_appendSS (w := w3) Tryd.underlying48 Tryd.info9s rfl (.tmp 34) (.tmp 37) rfl (w.heap.size + 1) (.slice (some ⟨w.heap.size + 1, 0, none⟩) 1 1) [[115, 112, 108, 105, 116]] rfl hown3h.out _ v2 zs rfl o3h.out hs3h.out.1 (Nat.le_trans hs3h.out.2 (by decide)) (by decide) hle3h.out ?_; intro v' w' hown2 hbel)
  go_ret
  exact ⟨_, rfl, own_base' hown2 (Nat.le_succ _), hb3.out.trans (hbel.mono (Nat.le_succ _))⟩

end Go.Proofs.YtfblpakoibadoaaDoor
