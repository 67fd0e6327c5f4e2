/-
  Helper text: senders and receivers in new memory; no statement is proved here.
-/
import Derived.Test.YtjilbgdenolllaaSnd
namespace Go.Proofs.Ytjilbgdenolllaa
open Go Go.RowKit

/-- Behind a box, a result's place and a call. -/
theorem box_call {w W w1 : World} {cs cs2 : Array Value} {T T2 : TypeId} (hb : Below W.heap.size W w1) (hW : W = ((w.alloc (.cells cs T)).alloc (.cells cs2 T2)).drew) :
    w.heap.size + 1 < w1.heap.size ∧ w1.heap[w.heap.size]? = some (.cells cs T (0, 0)) ∧ w1.heap[w.heap.size + 1]? = some (.cells cs2 T2 (0, 0)) ∧ Below w.heap.size w w1 := by
  have hos : W.os = w.os := by rw [hW]; rfl
  have htp : W.tape = w.tape := by rw [hW]; rfl
  have hout : W.output = w.output := by rw [hW]; rfl
  replace hW : W.heap = ((w.alloc (.cells cs T)).alloc (.cells cs2 T2)).heap := by rw [hW]; rfl
  have hsz : W.heap.size = w.heap.size + 1 + 1 := by rw [hW]; simp
  have hs := hb.size
  have hbW : Below w.heap.size w W := by
    have hb0 := ((Below.refl w.heap.size w).alloc (Nat.le_refl _) (.cells cs T)).alloc (by simp) (.cells cs2 T2)
    exact ⟨hos, htp, hout, by omega, fun k hk => by rw [hW]; exact hb0.block k hk⟩
  refine ⟨by omega, ?_, ?_, hbW.trans (hb.mono hbW.size)⟩
  · rw [hb.block _ (by omega), hW]
    exact (Below.heap_alloc _ _ _ (by simp)).trans (heap_alloc_new w _)
  · rw [hb.block _ (by omega), hW]
    have := heap_alloc_new (w.alloc (.cells cs T)) (.cells cs2 T2)
    simpa using this

/-- What holds behind the call that copies, of an owner of packets. -/
theorem News.stores {w1 : World} {base g p T : Nat} {ps : List (List UInt8)} {cs : Array Value} (h : News w1 base g ps) (hp : w1.heap[p]? = some (.cells cs T (0, 0))) (h1 : T ≠ 26) (h2 : T ≠ 5) (i : Nat) (u : Value) :
    News (w1.setCell ⟨p, i, none⟩ u) base g ps := by
  obtain ⟨hge, vs, e1, e2, e3⟩ := h
  have hgr := grown_setCell w1 ⟨p, i, none⟩ u
  refine ⟨hge, vs, block_grown e1 hgr (fun e => block_ne hp e1 h1 (Option.some.inj e).symm), e2, fun j hj => ?_⟩
  obtain ⟨q, k1, k2, k3⟩ := e3 j hj
  exact ⟨q, k1, k2, block_grown k3 hgr (fun e => block_ne hp k3 h2 (Option.some.inj e).symm)⟩

theorem set2 {w : World} {p T : Nat} {a b : Value} (h : w.heap[p]? = some (.cells #[a, b] T (0, 0))) (u v : Value) : ((w.setCell ⟨p, 0, none⟩ u).setCell ⟨p, 1, none⟩ v).heap[p]? = some (.cells #[u, v] T (0, 0)) := by
  have := block_set (block_set h 0 u) 1 v
  simpa using this
theorem below2 {B p : Nat} {w0 w : World} (h : Below B w0 w) (hp : B ≤ p) (u v : Value) : Below B w0 ((w.setCell ⟨p, 0, none⟩ u).setCell ⟨p, 1, none⟩ v) := (h.setCell (p := ⟨p, 0, none⟩) hp u).setCell (p := ⟨p, 1, none⟩) hp v
theorem News.stores2 {w1 : World} {base g p T : Nat} {ps : List (List UInt8)} {a b : Value} (h : News w1 base g ps) (hp : w1.heap[p]? = some (.cells #[a, b] T (0, 0))) (h1 : T ≠ 26) (h2 : T ≠ 5) (u v : Value) :
    News ((w1.setCell ⟨p, 0, none⟩ u).setCell ⟨p, 1, none⟩ v) base g ps := (h.stores hp h1 h2 0 u).stores (block_set hp 0 u) h1 h2 1 v
theorem results_row_tmp {P : Program} {fn : Func} {p u : Tmp} {ty : TypeId} (h : fn.results = #[.cell p ty, .tmp u]) (tmps : Array Value) (w : World) (g : Nat) (t : TypeId) (cs : Array Value) (fr : Nat × Nat) (d : TypeDesc)
    (hp : tmps.getD p undef = .pointer (some ⟨g, 0, none⟩)) (hg : w.heap[g]? = some (.cells cs t fr))
    (hu : P.underlying ty = some d) (hd : (match d with | .struct _ | .array _ _ => true | _ => false) = true) (hi : (P.info? ty).map (·.size) = some cs.size) :
    (results fn tmps).run P w = .ok (.tuple #[.agg cs, tmps.getD u undef]) w := by
  have hp' : tmps[p]?.getD undef = .pointer (some ⟨g, 0, none⟩) := by simpa using hp
  simp [results, h, hp', asAddr, run_loadVar_row w g t ty cs fr d hg hu hd hi]
theorem results_row_row {P : Program} {fn : Func} {p p2 : Tmp} {ty ty2 : TypeId} (h : fn.results = #[.cell p ty, .cell p2 ty2]) (tmps : Array Value) (w : World) (g g2 : Nat) (t t2 : TypeId) (cs cs2 : Array Value) (fr fr2 : Nat × Nat) (d d2 : TypeDesc)
    (hp : tmps.getD p undef = .pointer (some ⟨g, 0, none⟩)) (hg : w.heap[g]? = some (.cells cs t fr))
    (hu : P.underlying ty = some d) (hd : (match d with | .struct _ | .array _ _ => true | _ => false) = true) (hi : (P.info? ty).map (·.size) = some cs.size)
    (hp2 : tmps.getD p2 undef = .pointer (some ⟨g2, 0, none⟩)) (hg2 : w.heap[g2]? = some (.cells cs2 t2 fr2))
    (hu2 : P.underlying ty2 = some d2) (hd2 : (match d2 with | .struct _ | .array _ _ => true | _ => false) = true) (hi2 : (P.info? ty2).map (·.size) = some cs2.size) :
    (results fn tmps).run P w = .ok (.tuple #[.agg cs, .agg cs2]) w := by
  have hp' : tmps[p]?.getD undef = .pointer (some ⟨g, 0, none⟩) := by simpa using hp
  have hp2' : tmps[p2]?.getD undef = .pointer (some ⟨g2, 0, none⟩) := by simpa using hp2
  simp [results, h, hp', hp2', asAddr, run_loadVar_row w g t ty cs fr d hg hu hd hi, run_loadVar_row w g2 t2 ty2 cs2 fr2 d2 hg2 hu2 hd2 hi2]

set_option maxHeartbeats 800000 in
set_option maxRecDepth 100000 in
theorem ownS_any (w : World) (t : Bool) (A : Option Addr) (c : Nat) (ps : List (List UInt8)) (h : Rds w w.heap.size A c ps) (hs : Sml ps) :
    Calls Try.prog 21 #[sv t (.slice A ps.length c)] w (ResNS w t ps) := by
  have hb0 := Lib.hid (((Below.refl w.heap.size w).alloc (Nat.le_refl _) (.cells #[.bool t, .slice A ps.length c] 28)).alloc (by simp) (.cells #[.bool false, .slice none 0 0] 28))
  go_enter Try.func21, Try.ntmps21
  go_wp2
  go_region_with (go_at_call 29; go_loud (refine (copies_any _ A c ps ((h.below hb0.out.drew).more hb0.out.drew.size) hs).mono ?_; rintro e w1 ⟨g, rfl, hn, hb1⟩; obtain ⟨hz, k1, k2, hb⟩ := box_call hb1 rfl; have c0 := block_at k1 (i := 0) (v := .bool t) rfl; have c1 := block_at k1 (i := 1) (v := .slice A ps.length c) rfl; have d0 := block_at k2 (i := 0) (v := .bool false) rfl; have d1 := block_at k2 (i := 1) (v := .slice none 0 0) rfl; have f0 := block_free k2 0; have f1 := block_free k2 1))
  all_goals
    clear c0 c1 d0 d1 f0 f1 hb1
    go_wp2
    refine bodyPost_ret (results_cell_row rfl _ _ (w.heap.size + 1) _ _ _ _ rfl (set2 k2 _ _) Try.underlying28 rfl (by kernel_rfl)) rfl ?_
    exact ⟨g, rfl, ((hn.mono hb0.out.drew.size).stores2 k2 (by decide) (by decide) _ _), below2 hb (by omega) _ _⟩

set_option maxHeartbeats 800000 in
set_option maxRecDepth 100000 in
theorem ownR_any (w : World) (t : Bool) (A : Option Addr) (c : Nat) (ps : List (List UInt8)) (h : Rds w w.heap.size A c ps) (hs : Sml ps) :
    Calls Try.prog 27 #[sv t (.slice A ps.length c)] w (ResNS w t ps) := by
  have hb0 := Lib.hid (((Below.refl w.heap.size w).alloc (Nat.le_refl _) (.cells #[.bool t, .slice A ps.length c] 39)).alloc (by simp) (.cells #[.bool false, .slice none 0 0] 39))
  go_enter Try.func27, Try.ntmps27
  go_wp2
  go_region_with (go_at_call 29; go_loud (refine (copies_any _ A c ps ((h.below hb0.out.drew).more hb0.out.drew.size) hs).mono ?_; rintro e w1 ⟨g, rfl, hn, hb1⟩; obtain ⟨hz, k1, k2, hb⟩ := box_call hb1 rfl; have c0 := block_at k1 (i := 0) (v := .bool t) rfl; have c1 := block_at k1 (i := 1) (v := .slice A ps.length c) rfl; have d0 := block_at k2 (i := 0) (v := .bool false) rfl; have d1 := block_at k2 (i := 1) (v := .slice none 0 0) rfl; have f0 := block_free k2 0; have f1 := block_free k2 1))
  all_goals
    clear c0 c1 d0 d1 f0 f1 hb1
    go_wp2
    refine bodyPost_ret (results_cell_row rfl _ _ (w.heap.size + 1) _ _ _ _ rfl (set2 k2 _ _) Try.underlying39 rfl (by kernel_rfl)) rfl ?_
    exact ⟨g, rfl, ((hn.mono hb0.out.drew.size).stores2 k2 (by decide) (by decide) _ _), below2 hb (by omega) _ _⟩

end Go.Proofs.Ytjilbgdenolllaa
