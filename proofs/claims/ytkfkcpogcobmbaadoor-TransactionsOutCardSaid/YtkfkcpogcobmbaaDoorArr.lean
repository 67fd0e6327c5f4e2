/-
  Helper text: the reference's world: a packet arrives or not; no statement is proved here.
-/
import Derived.Test.YtkfkcpogcobmbaaDoorRw
namespace Go.Proofs.YtkfkcpogcobmbaaDoor
open Go Go.RowKit

def arrR (x : Rw) (p : Pkt) (hb : Bool) : Rw × Bool := (⟨x.ans, x.flt.drop 1, x.heard, x.sent ++ [(p, hb, (x.flt.getD 0 0).toNat)]⟩, (x.flt.getD 0 0).toNat == 0)
/-- A world is returned, and a value behind it; what was there below N, and besides the lists, is as it was. -/
def RwPost (N : Bd) (x : Rw) (b : Bool) (F : Nat → Prop) (w : World) (e : Ending) (w' : World) : Prop :=
  ∃ v' F', e = .returned (.tuple #[v', .bool b]) ∧ (rwA N v' x).holds F' w' ∧ Mv F w F' w'
theorem cell_below {w w' : World} (hb : Below w.heap.size w w') {p : Addr} {v : Value} (h : w.cell? p = some v) : w'.cell? p = some v := (hb.cell (World.block_lt_of_cell? _ _ h)).trans h

theorem arr_end {N : Bd} {w Wm w' y2 z : World} {x : Rw} {Aa : Option Addr} {ca : Nat} {Af : Option Addr} {cf : Nat} {fl : List UInt8} {A2 A3 A' : Option Addr} {c2 c3 c' : Nat} {s : SentP} {F : Nat → Prop} {b b' : Bool} (hbb : b' = b) (hN : N ≤ w.heap.size) (RA : RdL layPk (fun k => k < N.lo ∧ k < N.hi) w Aa ca x.ans)
    (RF : RdS (fun k => k < N.hi) w Af cf fl) (hOH : OwnB layPk N w (.slice A2 x.heard.length c2) x.heard) (hOS : OwnB laySn N w (.slice A3 x.sent.length c3) x.sent) (hap : ∀ k, (Value.slice A2 x.heard.length c2).ownBlock = some k → (Value.slice A3 x.sent.length c3).ownBlock ≠ some k)
    (hF : ∀ k, F k ↔ (Value.slice A2 x.heard.length c2).ownBlock = some k ∨ (Value.slice A3 x.sent.length c3).ownBlock = some k) (hmid : Below w.heap.size w Wm) (hms : w.heap.size + 1 + 1 + 1 ≤ Wm.heap.size)
    (ho3 : OwnB laySn N w' (.slice A' (x.sent ++ [s]).length c') (x.sent ++ [s])) (hg3 : Wm.grownBy w' (Value.slice A3 x.sent.length c3).ownBlock) (e3 : (Value.slice A' (x.sent ++ [s]).length c').ownBlock = (Value.slice A3 x.sent.length c3).ownBlock ∨ (Value.slice A' (x.sent ++ [s]).length c').ownBlock = some Wm.heap.size)
    (hg4 : w'.grownBy y2 (some w.heap.size)) (hgz : y2.grownBy z (some (w.heap.size + 1 + 1))) :
    RwPost N ⟨x.ans, fl, x.heard, x.sent ++ [s]⟩ b F w (.returned (.tuple #[.agg #[.slice Aa x.ans.length ca, .slice Af fl.length cf, .slice A2 x.heard.length c2, .slice A' (x.sent ++ [s]).length c'], .bool b'])) z := by
  subst hbb
  have hlt2 := hOH.lt
  have hlt3 := hOS.lt
  have z1 := hg3.size
  have z2 := hg4.size
  have z3 := hgz.size
  have h3' : ∀ k, (Value.slice A' (x.sent ++ [s]).length c').ownBlock = some k → (Value.slice A3 x.sent.length c3).ownBlock = some k ∨ w.heap.size + 1 + 1 + 1 ≤ k := fun k hk => e3.elim (fun e => .inl (e.symm.trans hk)) (fun e => .inr (by rw [e] at hk; injection hk with hk; omega))
  have hkk : ∀ k, k < w.heap.size → (Value.slice A3 x.sent.length c3).ownBlock ≠ some k → z.heap[k]? = w.heap[k]? := fun k hk hne => by
    rw [hgz.block k (by omega) (fun e => by injection e; omega), hg4.block k (by omega) (fun e => by injection e; omega), hg3.block k (by omega) (fun e => hne e.symm), hmid.block k hk]
  have hlo : ∀ k, k < N.hi → z.heap[k]? = w.heap[k]? := fun k hk => hkk k (by omega) (fun e => by have := (hlt3 k e).1; omega)
  have hne : ∀ k, (Value.slice A' (x.sent ++ [s]).length c').ownBlock = some k → k ≠ w.heap.size ∧ k ≠ w.heap.size + 1 + 1 := fun k hk => by
    rcases h3' k hk with h | h
    · have := (hlt3 k h).2; omega
    · omega
  refine ⟨_, fun k => (Value.slice A2 x.heard.length c2).ownBlock = some k ∨ (Value.slice A' (x.sent ++ [s]).length c').ownBlock = some k, rfl, ⟨Aa, ca, Af, cf, A2, c2, A', c', rfl, RA.keep fun k h => hlo k h.2, RF.keep hlo, ?_, ?_, fun k hk hk' => ?_, fun _ => Iff.rfl⟩, ⟨?_, ?_, ?_, by omega, fun k hk hn => ?_, fun k hk => ?_⟩⟩
  · exact hOH.keep fun k hk => hk.elim (hlo k) (fun e => hkk k (hlt2 k e).2 (hap k e))
  · exact (ho3.grown hg4 (fun k hk e => (hne k hk).1 (by injection e)) (fun k e => by injection e; omega) (by omega)).grown hgz (fun k hk e => (hne k hk).2 (by injection e)) (fun k e => by injection e; omega) (by omega)
  · rcases h3' k hk' with h | h
    · exact hap k hk h
    · have := (hlt2 k hk).2; omega
  · exact hgz.os.trans (hg4.os.trans (hg3.os.trans hmid.os))
  · exact hgz.tape.trans (hg4.tape.trans (hg3.tape.trans hmid.tape))
  · exact hgz.output.trans (hg4.output.trans (hg3.output.trans hmid.output))
  · exact hkk k hk fun e => hn ((hF k).2 (.inr e))
  · rcases hk with hk | hk
    · exact .inl ((hF k).2 (.inl hk))
    · rcases h3' k hk with h | h
      · exact .inl ((hF k).2 (.inr h))
      · exact .inr (by omega)

set_option maxHeartbeats 1600000 in
set_option maxRecDepth 100000 in
theorem arr_any (w : World) (N : Bd) (v : Value) (x : Rw) (F : Nat → Prop) (h : (rwA N v x).holds F w) (p : Pkt) (hb : Bool) (A : Option Addr) (c : Nat) (hr : RdS (fun k => k < N.lo ∧ k < N.hi) w A c p.data) (hl : x.sent.length ≤ 1000000) (hN : N ≤ w.heap.size) :
    Calls Tryd.prog 40 #[v, pkV p A c, .bool hb] w (RwPost N (arrR x p hb).1 (arrR x p hb).2 F w) := by
  obtain ⟨Aa, ca, Af, cf, A2, c2, A3, c3, rfl, h1, h2, h3, h4, h5, h6⟩ := h
  have HN := Lib.hid hN
  have RA := Lib.hid h1
  have OH := Lib.hid h3
  have OS := Lib.hid h4
  have Hap := Lib.hid h5
  have HFi := Lib.hid h6
  have RP := Lib.hid hr
  have Hl := Lib.hid hl
  unfold arrR
  clear hN h1 h3 h4 h5 h6 hr hl
  rcases Nat.eq_zero_or_pos x.flt.length with h0 | h0
  · have hf0 : x.flt = [] := List.eq_nil_of_length_eq_zero h0
    rw [h0]
    have RF := Lib.hid h2
    rw [hf0] at RF ⊢
    clear h2 hf0 h0
    obtain ⟨g0, g1, g2, g3, g4⟩ := alloc3 w (.cells #[.slice Aa x.ans.length ca, .slice Af 0 cf, .slice A2 x.heard.length c2, .slice A3 x.sent.length c3] 67) (pkB p A c) (.cells #[.slice none 0 0, .slice none 0 0, .slice none 0 0, .slice none 0 0] 67)
    have d1 := block_at g0 (i := 1) (v := .slice Af 0 cf) rfl
    have HP := Lib.hid g1
    have HBx := Lib.hid g0
    have HZx := Lib.hid g2
    have HXb := Lib.hid g4
    have HXs := Lib.hid (Nat.le_of_eq g3.symm)
    have HWm := Lib.hid (HXb.out.alloc HXb.out.size (.cells (snL (p, hb, 0) A c).toArray 101))
    have HWs := Lib.hid (show w.heap.size + 1 + 1 + 1 ≤ (World.alloc (((w.alloc (.cells #[.slice Aa x.ans.length ca, .slice Af 0 cf, .slice A2 x.heard.length c2, .slice A3 x.sent.length c3] 67)).alloc (pkB p A c)).alloc (.cells #[.slice none 0 0, .slice none 0 0, .slice none 0 0, .slice none 0 0] 67)) (.cells (snL (p, hb, 0) A c).toArray 101)).heap.size by have := HXs.out; first | (simp; done) | (simp; omega))
    have OSm := Lib.hid (OS.out.below HWm.out HN.out)
    have RPm := Lib.hid (RP.out.keep (w' := World.alloc (((w.alloc (.cells #[.slice Aa x.ans.length ca, .slice Af 0 cf, .slice A2 x.heard.length c2, .slice A3 x.sent.length c3] 67)).alloc (pkB p A c)).alloc (.cells #[.slice none 0 0, .slice none 0 0, .slice none 0 0, .slice none 0 0] 67)) (.cells (snL (p, hb, 0) A c).toArray 101)) fun k hk => HWm.out.block k (Nat.lt_of_lt_of_le hk.2 HN.out))
    have HBm := Lib.hid ((Below.heap_alloc (((w.alloc (.cells #[.slice Aa x.ans.length ca, .slice Af 0 cf, .slice A2 x.heard.length c2, .slice A3 x.sent.length c3] 67)).alloc (pkB p A c)).alloc (.cells #[.slice none 0 0, .slice none 0 0, .slice none 0 0, .slice none 0 0] 67)) (.cells (snL (p, hb, 0) A c).toArray 101) _ (block_lt HBx.out)).trans HBx.out)
    have HZm := Lib.hid ((Below.heap_alloc (((w.alloc (.cells #[.slice Aa x.ans.length ca, .slice Af 0 cf, .slice A2 x.heard.length c2, .slice A3 x.sent.length c3] 67)).alloc (pkB p A c)).alloc (.cells #[.slice none 0 0, .slice none 0 0, .slice none 0 0, .slice none 0 0] 67)) (.cells (snL (p, hb, 0) A c).toArray 101) _ (block_lt HZx.out)).trans HZx.out)
    have HRow := Lib.hid (g3 ▸ alloc1 (((w.alloc (.cells #[.slice Aa x.ans.length ca, .slice Af 0 cf, .slice A2 x.heard.length c2, .slice A3 x.sent.length c3] 67)).alloc (pkB p A c)).alloc (.cells #[.slice none 0 0, .slice none 0 0, .slice none 0 0, .slice none 0 0] 67)) (.cells (snL (p, hb, 0) A c).toArray 101))
    have d3 := block_at HBx.out (i := 3) (v := .slice A3 x.sent.length c3) rfl
    clear g0 g1 g2 g3 g4
    go_enter Tryd.func40, Tryd.ntmps40
    go_wp2_with (first | (refine wpl_loadB flatPk rfl (.tmp 4) rfl _ rfl HP.out rfl ?_) | (at_builtin; refine wpl_appendB OSm.out Tryd.underlying57 infSn rfl (by decide) (by decide) rfl (.tmp 22) (.tmp 27) rfl rfl (p, hb, 0) A c RPm.out _ HRow.out rfl Hl.out (Nat.le_trans HN.out HWm.out.size) ?_; intro A' c' w' ho3 hg3 He3; have HB3 := Lib.hid (grown_block hg3 HBm.out (fun e => by have := (OS.out.lt _ e.symm).2; omega)); have HZ3 := Lib.hid (grown_block hg3 HZm.out (fun e => by have := (OS.out.lt _ e.symm).2; omega)); replace ho3 := Lib.hid ho3; replace hg3 := Lib.hid hg3; replace He3 := Lib.hid He3) | (refine wpl_storeC rfl (.tmp 29) (.tmp 28) rfl w.heap.size 3 rfl _ rfl rfl (by kernel_rfl) HB3.out (by simp) ?_; intro y2 HB4 hg4 hs4; have HZ4 := Lib.hid (grown_block hg4 HZ3.out (fun e => by injection e; omega)); replace HB4 := Lib.hid HB4; replace hg4 := Lib.hid hg4; clear hs4) | (refine wpl_loadB flatRw rfl (.tmp 3) rfl _ rfl HB4.out rfl ?_) | (refine wpl_storeB flatRw rfl (.tmp 6) (.tmp 30) rfl _ rfl _ rfl HZ4.out rfl rfl rfl ?_; intro z kz hgz hsz; replace kz := Lib.hid kz; replace hgz := Lib.hid hgz; clear hsz))
    refine bodyPost_ret (ret_cell_tmp flatRw rfl _ (w.heap.size + 1 + 1) rfl kz.out rfl) rfl ?_
    have hE := arr_end (show ((0 : Int) == 0) = ((([] : List UInt8).getD 0 0).toNat == 0) from rfl) HN.out RA.out (RF.out) OH.out OS.out Hap.out HFi.out HWm.out HWs.out ho3.out hg3.out He3.out hg4.out hgz.out
    have l1 : (x.sent ++ [(p, hb, 0)]).length = x.sent.length + 1 := by simp
    rw [l1] at hE
    exact hE
  · obtain ⟨g, off, rfl, hg, hc⟩ := h2.cells h0
    obtain ⟨A4, c4, hcut, hrf⟩ := h2.from_ (k := 1) (by omega)
    have hsx := fun W : World => sliceF_from (some ⟨g, off, none⟩) x.flt.length cf 1 W (by omega) (by omega)
    rw [show (1 : Int).toNat = 1 from rfl, hcut] at hsx
    have hx0 := hc 0 h0
    rw [Nat.add_zero] at hx0
    have RF := Lib.hid hrf
    have hlt : (0 : Int) < (x.flt.length : Int) := by omega
    have hle := h2.le
    have hcap := h2.cap
    clear h2 hc hcut hrf hg
    obtain ⟨f, hf⟩ : ∃ f, x.flt.getD 0 0 = f := ⟨_, rfl⟩
    rw [hf] at hx0 ⊢
    clear hf
    obtain ⟨n, hn⟩ : ∃ n, x.flt.length = n := ⟨_, rfl⟩
    rw [hn] at hsx hlt hle h0 ⊢
    clear hn
    obtain ⟨g0, g1, g2, g3, g4⟩ := alloc3 w (.cells #[.slice Aa x.ans.length ca, .slice (some ⟨g, off, none⟩) n cf, .slice A2 x.heard.length c2, .slice A3 x.sent.length c3] 67) (pkB p A c) (.cells #[.slice none 0 0, .slice none 0 0, .slice none 0 0, .slice none 0 0] 67)
    have d1 := block_at g0 (i := 1) (v := .slice (some ⟨g, off, none⟩) n cf) rfl
    have HP := Lib.hid g1
    have HB := Lib.hid g0
    have HZ := Lib.hid g2
    have Hb := Lib.hid g4
    have Hs := Lib.hid g3
    have c0 := cell_below g4 hx0
    clear g0 g1 g2 g3 g4 hx0
    go_enter Tryd.func40, Tryd.ntmps40
    go_wp2_with (first | (refine wpl_storeC rfl (.tmp 20) (.tmp 19) rfl w.heap.size 1 rfl _ rfl rfl (by kernel_rfl) HB.out (by simp) ?_; intro y1 HB1 hg1 hs1; have HXb := Lib.hid (Hb.out.trans ((show Below w.heap.size _ _ from below_grown (Below.refl w.heap.size _) hg1 (by rw [Hs.out]; omega) (Nat.le_refl _)))); have HXs := Lib.hid (show w.heap.size + 1 + 1 + 1 ≤ y1.heap.size by rw [hs1, Hs.out]; exact Nat.le_refl _); have HBx := Lib.hid HB1; have HP1 := Lib.hid (grown_block hg1 HP.out (fun e => by injection e; omega)); have HZx := Lib.hid (grown_block hg1 HZ.out (fun e => by injection e; omega)); have HWm := Lib.hid (HXb.out.alloc HXb.out.size (.cells (snL (p, hb, f.toNat) A c).toArray 101)); have HWs := Lib.hid (show w.heap.size + 1 + 1 + 1 ≤ (World.alloc y1 (.cells (snL (p, hb, f.toNat) A c).toArray 101)).heap.size by have := HXs.out; first | (simp; done) | (simp; omega)); have OSm := Lib.hid (OS.out.below HWm.out HN.out); have RPm := Lib.hid (RP.out.keep (w' := World.alloc y1 (.cells (snL (p, hb, f.toNat) A c).toArray 101)) fun k hk => HWm.out.block k (Nat.lt_of_lt_of_le hk.2 HN.out)); have HBm := Lib.hid ((Below.heap_alloc y1 (.cells (snL (p, hb, f.toNat) A c).toArray 101) _ (block_lt HBx.out)).trans HBx.out); have HZm := Lib.hid ((Below.heap_alloc y1 (.cells (snL (p, hb, f.toNat) A c).toArray 101) _ (block_lt HZx.out)).trans HZx.out); have HRow := Lib.hid (alloc1 y1 (.cells (snL (p, hb, f.toNat) A c).toArray 101)); have d3 := block_at HBx.out (i := 3) (v := .slice A3 x.sent.length c3) rfl; clear hg1 hs1 HB1) | (refine wpl_loadB flatPk rfl (.tmp 4) rfl _ rfl HP1.out rfl ?_) | (at_builtin; refine wpl_appendB OSm.out Tryd.underlying57 infSn rfl (by decide) (by decide) rfl (.tmp 22) (.tmp 27) rfl rfl (p, hb, f.toNat) A c RPm.out _ HRow.out rfl Hl.out (Nat.le_trans HN.out HWm.out.size) ?_; intro A' c' w' ho3 hg3 He3; have HB3 := Lib.hid (grown_block hg3 HBm.out (fun e => by have := (OS.out.lt _ e.symm).2; omega)); have HZ3 := Lib.hid (grown_block hg3 HZm.out (fun e => by have := (OS.out.lt _ e.symm).2; omega)); replace ho3 := Lib.hid ho3; replace hg3 := Lib.hid hg3; replace He3 := Lib.hid He3) | (refine wpl_storeC rfl (.tmp 29) (.tmp 28) rfl w.heap.size 3 rfl _ rfl rfl (by kernel_rfl) HB3.out (by simp) ?_; intro y2 HB4 hg4 hs4; have HZ4 := Lib.hid (grown_block hg4 HZ3.out (fun e => by injection e; omega)); replace HB4 := Lib.hid HB4; replace hg4 := Lib.hid hg4; clear hs4) | (refine wpl_loadB flatRw rfl (.tmp 3) rfl _ rfl HB4.out rfl ?_) | (refine wpl_storeB flatRw rfl (.tmp 6) (.tmp 30) rfl _ rfl _ rfl HZ4.out rfl rfl rfl ?_; intro z kz hgz hsz; replace kz := Lib.hid kz; replace hgz := Lib.hid hgz; clear hsz))
    refine bodyPost_ret (ret_cell_tmp flatRw rfl _ (w.heap.size + 1 + 1) rfl kz.out rfl) rfl ?_
    have hE := arr_end (castEq f.toNat 0) HN.out RA.out (RF.out) OH.out OS.out Hap.out HFi.out HWm.out HWs.out ho3.out hg3.out He3.out hg4.out hgz.out
    have l1 : (x.sent ++ [(p, hb, f.toNat)]).length = x.sent.length + 1 := by simp
    rw [l1] at hE
    rw [List.length_drop] at hE
    exact hE

end Go.Proofs.YtkfkcpogcobmbaaDoor
