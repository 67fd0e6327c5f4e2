/-
  Helper text: the walk of the law TransactionsOut; no statement is proved here.
-/
import Derived.Test.YtkfkcpogcobmbaaDoorOutA
import Derived.Test.YtkfkcpogcobmbaaDoorLives
namespace Go.Proofs.YtkfkcpogcobmbaaDoor
open Go Go.RowKit

theorem flatSnd : Flat Tryd.prog 82 2 := ⟨_, Tryd.underlying82, by kernel_rfl⟩
/-- The toggle of packet number d. -/
def par : Nat → Bool
  | 0 => false
  | n + 1 => !par n
/-- What the receiver has taken, if d packets have been acknowledged. -/
def OInv (l : List (List UInt8)) (d : Nat) (s : RecS) : Prop := (s.tog = par d ∧ s.got = l.take d) ∨ (d < l.length ∧ s.tog = par (d + 1) ∧ s.got = l.take (d + 1))
theorem take_snocD (l : List (List UInt8)) {d : Nat} (hd : d < l.length) : l.take (d + 1) = l.take d ++ [l.getD d []] := by
  rw [List.take_add_one]; simp [List.getD, hd]
theorem out_step (l : List (List UInt8)) (hl : ∀ j, (l.getD j []).length ≤ 64) (d : Nat) (hd : d < l.length) (s : RecS) (h : OInv l d s) (fs : List UInt8) :
    ∃ s2 fs' sn res, doR lineN (askR hearRec lineN) s fs (outTr (par d) (l.getD d [])) = ((s2, fs', sn), res, []) ∧ ((res = 4 ∧ OInv l d s2 ∧ fs'.length < fs.length) ∨ (res = 1 ∧ OInv l (d + 1) s2 ∧ fs'.length ≤ fs.length)) := by
  have hh : (if par d = s.tog then !s.tog else s.tog) = par (d + 1) ∧ (if par d = s.tog then s.got ++ [l.getD d []] else s.got) = l.take (d + 1) := by
    rcases h with ⟨h1, h2⟩ | ⟨_, h1, h2⟩
    · rw [h1, h2, if_pos rfl, if_pos rfl, take_snocD l hd]; exact ⟨rfl, rfl⟩
    · have hne : ¬ par d = s.tog := by rw [h1]; show ¬ par d = !par d; cases par d <;> decide
      rw [if_neg hne, if_neg hne]; exact ⟨h1, h2⟩
  obtain ⟨fs', sn, h0, h1 | h1 | h1⟩ := out_ways s fs (par d) (l.getD d []) (hl d)
  · obtain ⟨tk, e, hlt⟩ := h1
    exact ⟨_, fs', sn, 4, e, .inl ⟨rfl, h, hlt⟩⟩
  · obtain ⟨e, hlt⟩ := h1
    exact ⟨_, fs', sn, 4, e, .inl ⟨rfl, .inr ⟨hd, hh.1, hh.2⟩, hlt⟩⟩
  · exact ⟨_, fs', sn, 1, h1, .inr ⟨rfl, .inl ⟨hh.1, hh.2⟩, h0⟩⟩
theorem OInv.take {l : List (List UInt8)} {d : Nat} {s : RecS} (h : OInv l d s) (hd : d ≤ l.length) : ∃ m, s.got = l.take m ∧ m ≤ l.length ∧ d ≤ m ∧ m ≤ d + 1 := by
  rcases h with ⟨_, h⟩ | ⟨h0, _, h⟩
  · exact ⟨d, h, hd, by omega, by omega⟩
  · exact ⟨d + 1, h, by omega, by omega, by omega⟩
theorem OInv.len {l : List (List UInt8)} {d : Nat} {s : RecS} (h : OInv l d s) (hd : d ≤ l.length) : s.got.length ≤ l.length ∧ d ≤ s.got.length ∧ s.got.length ≤ d + 1 := by
  obtain ⟨m, e, h1, h2, h3⟩ := h.take hd
  rw [e, List.length_take]; omega
theorem OInv.pre {l : List (List UInt8)} {d : Nat} {s : RecS} (h : OInv l d s) (hd : d ≤ l.length) : ∀ k, k < s.got.length → l.getD k [] = s.got.getD k [] := fun k hk => by
  obtain ⟨m, e, h1, h2, h3⟩ := h.take hd
  rw [e, List.length_take] at hk
  rw [e]
  simp [List.getD, show k < m by omega]
theorem OInv.all {l : List (List UInt8)} {d : Nat} {s : RecS} (h : OInv l d s) (hd : d ≤ l.length) (hl : l.length ≤ 20) (hall : ∀ j, (l.getD j []).length ≤ 64) : recJ s [] := by
  have hlen := h.len hd
  refine ⟨by show s.got.length ≤ 1000 + 0; omega, fun x hx => ?_⟩
  obtain ⟨i, hi, rfl⟩ := List.mem_iff_getElem.1 hx
  have := h.pre hd i hi
  have h2 : s.got.getD i [] = s.got[i] := by simp [List.getD, hi]
  rw [h2] at this
  have h3 := hall i
  rw [this] at h3
  omega
theorem RdL.mv {ι : Type} {L : Lay ι} {S S' : Nat → Prop} {w w' : World} {A : Option Addr} {c : Nat} {l : List ι} (h : RdL L (fun k => ¬ S k) w A c l) (hpos : 0 < L.sz) (hm : Mv S w S' w') : RdL L (fun k => ¬ S' k) w' A c l :=
  ((h.lt hpos).keep fun k hk => hm.keep k hk.2 hk.1).mono fun k hk => hm.gone hk.2 hk.1
theorem Tg.Rds.blw {w w' : World} {A : Option Addr} {c : Nat} {ps : List (List UInt8)} (h : Tg.Rds w w.heap.size A c ps) (hb : Below w.heap.size w w') : Tg.Rds w' w'.heap.size A c ps := h.belowTop hb

set_option maxHeartbeats 12800000 in
set_option maxRecDepth 100000 in
theorem lawOut_any (w : World) (hL : Laid w) (hLN : 0 < w.heap.size) (A : Option Addr) (c : Nat) (l : List (List UInt8)) (hl : Tg.Rds w w.heap.size A c l) (B : Option Addr) (cb : Nat) (xs : List UInt8) (hx : Rd w w.heap.size B cb xs) :
    Calls Tryd.prog 7 #[.slice A l.length c, .slice B xs.length cb] w (ResB w true) := by
  have KF := Lib.hid (few_any w A c l hl)
  have Hl := Lib.hid hl
  have Hx := Lib.hid hx.rdS
  have HL := Lib.hid hL
  clear hl hx hL
  go_enter Tryd.func7, Tryd.ntmps7
  go_wp2_with fail
  refine KF.out.mono ?_
  rintro e y1 ⟨sm, ⟨rfl, bb1⟩, hsm⟩
  have Hb1 := Lib.hid bb1
  clear KF bb1
  cases sm
  · go_wp2
    go_ret
    exact ⟨rfl, Hb1.out⟩
  by_cases hm : (120 : Int) < (xs.length : Int)
  · go_wp2
    go_ret
    exact ⟨rfl, Hb1.out⟩
  have hfew := hsm rfl
  have hall : ∀ j, (l.getD j []).length ≤ 64 := fun j => by
    by_cases hj : j < l.length
    · exact hfew.2 j hj
    · simp [List.getD, Nat.le_of_not_lt hj]
  have hln : l.length ≤ 20 := hfew.1
  have Hall := Lib.hid hall
  have Hxl := Lib.hid (show xs.length ≤ 120 by omega)
  clear hsm hfew hall
  go_wp2_with fail
  refine (Tg.new_good y1 A c l (Hl.out.belowTop Hb1.out) (by omega) (fun j => by have := Hall.out j; omega)).mono ?_
  rintro e y2 ⟨g, rfl, hn2, bb2⟩
  have Hb2 := Lib.hid (Hb1.out.trans (bb2.mono Hb1.out.size))
  have hs2 : Tg.Sml l := ⟨by omega, fun j => by have := Hall.out j; omega⟩
  have hrl := (News.rdl hn2 hs2).mono (G := fun k => w.heap.size ≤ k ∧ k < y2.heap.size) fun k hk => by have := Hb1.out.size; omega
  have HRl := Lib.hid hrl
  have k5 := Lib.hid (alloc1 y2 (.cells #[.bool false, .slice none 0 0] 82))
  have hb5 := Lib.hid ((Below.refl y2.heap.size y2).alloc (Nat.le_refl _) (.cells #[.bool false, .slice none 0 0] 82))
  clear hn2 bb2 hrl hs2
  go_wp2_with (refine wpl_storeB flatSnd rfl (.tmp 5) (.tmp 28) rfl _ rfl _ rfl k5.out rfl rfl rfl ?_; intro y3 k3 hg3 hs3; have K3 := Lib.hid k3; have Hb3 := Lib.hid (below_grown hb5.out hg3 hb5.out.size (Nat.le_refl _)); clear k3 hg3 hs3)
  have hb6 := Lib.hid ((Below.refl y3.heap.size y3).alloc (Nat.le_refl _) (.cells #[.bool false, .slice none 0 0, .bool false] 89))
  have k6 := Lib.hid (alloc1 y3 (.cells #[.bool false, .slice none 0 0, .bool false] 89))
  have hw3 := Lib.hid (Hb2.out.trans (Hb3.out.mono Hb2.out.size))
  refine (wire_any _ B cb xs ((Hx.out.keep fun k hk => ((hw3.out.trans (hb6.out.mono hw3.out.size)).block k hk)).rdT) (by have := Hxl.out; omega)).mono ?_
  rintro e y4 ⟨gl, FL, rfl, hF, bb⟩
  obtain ⟨fs, hfs⟩ : ∃ fs, xs.map m3 = fs := ⟨_, rfl⟩
  rw [hfs] at hF
  have hfl : fs.length = xs.length := by rw [← hfs]; simp
  have hsz6 : (y3.alloc (.cells #[.bool false, .slice none 0 0, .bool false] 89)).heap.size = y3.heap.size + 1 := by simp
  rw [hsz6] at hF bb
  have h3w := hw3.out.size
  have hlo := block_lt K3.out
  have hg4 : Below w.heap.size w y4 := (hw3.out.trans (hb6.out.mono hw3.out.size)).trans (bb.mono (by omega))
  have q5 : y4.heap[y2.heap.size]? = some (.cells #[.bool false, .slice (some ⟨g, 0, none⟩) l.length l.length] 82 (0, 0)) := (bb.block _ (by omega)).trans ((hb6.out.block _ hlo).trans K3.out)
  have q6 : y4.heap[y3.heap.size]? = some (.cells #[.bool false, .slice none 0 0, .bool false] 89 (0, 0)) := (bb.block _ (by omega)).trans k6.out
  have hd4 : (recA w.heap.size y3.heap.size ⟨false, [], false⟩).holds (fun k => k = y3.heap.size) y4 := ⟨⟨none, 0, q6, ⟨Nat.le_refl _, by omega, fun h => absurd h (by simp)⟩⟩, rfl, fun k hk => by have := bb.size; subst hk; omega⟩
  have hl4 : (lineA w.heap.size gl fs).holds FL y4 := lineA_base hF (by omega)
  have hFge : ∀ k, FL k → y3.heap.size + 1 ≤ k := fun k hk => (hF.2.2 k hk).1
  have hr4 : RdL layB (fun k => ¬ (k = y3.heap.size ∨ FL k)) y4 (some ⟨g, 0, none⟩) l.length l := ((HRl.out.keep (w' := y4) fun k hk => (bb.block k (by omega)).trans ((hb6.out.block k (by omega)).trans (Hb3.out.block k hk.2))).mono fun k hk h => h.elim (fun h => by omega) (fun h => by have := hFge k h; omega))
  have X4 := Lib.hid (show (∀ k, k = y3.heap.size → ¬ FL k) ∧ ¬ (y2.heap.size = y3.heap.size ∨ FL y2.heap.size) ∧ y3.heap.size < y4.heap.size from ⟨fun k hk h => by have := hFge k h; omega, fun h => h.elim (fun h => by omega) (fun h => by have := hFge _ h; omega), by have := bb.size; omega⟩)
  have Q5 := Lib.hid q5
  have Hg5w0 := Lib.hid (show w.heap.size ≤ y2.heap.size from Hb2.out.size)
  have Hd4 := Lib.hid hd4
  have Hl4 := Lib.hid hl4
  have Hr4 := Lib.hid hr4
  have Hg4 := Lib.hid hg4
  have Hfl := Lib.hid hfl
  clear hF bb hfs hsz6 h3w hlo hg4 q5 q6 hd4 hl4 hFge hr4 hb6 k6 hw3 HRl K3 Hb3 hb5 k5 Hb2 hfl
  obtain ⟨g5, h5⟩ : ∃ g5, y2.heap.size = g5 := ⟨_, rfl⟩
  obtain ⟨gb, hgb⟩ : ∃ gb, y3.heap.size = gb := ⟨_, rfl⟩
  rw [h5, hgb] at X4
  rw [h5] at Q5 ⊢
  have Hg5w := Lib.hid (show w.heap.size ≤ g5 by have := Hg5w0.out; omega)
  rw [hgb] at Hd4 Hr4 ⊢
  clear h5 hgb Hg5w0
  have hxl := Hxl.out
  go_wp2
  go_loopw [9] (fun i W => ∃ (k d : Nat) (s : RecS) (fs' : List UInt8) (FD FL : Nat → Prop) (A1 : Option Addr) (c1 : Nat), k ≤ l.length + xs.length ∧ d ≤ l.length ∧ k + fs'.length ≤ d + xs.length ∧ i = .int .i64 k ∧
    W.heap[g5]? = some (.cells #[.bool (par d), .slice A1 (l.drop d).length c1] 82 (0, 0)) ∧ RdL layB (fun k => ¬ (FD k ∨ FL k)) W A1 c1 (l.drop d) ∧ (recA w.heap.size gb s).holds FD W ∧ (lineA w.heap.size gl fs').holds FL W ∧ (∀ k, FD k → ¬ FL k) ∧ ¬ (FD g5 ∨ FL g5) ∧ OInv l d s ∧ Below w.heap.size w W)
    (fun i _ => l.length + xs.length - (intOf i).toNat)
  case atStart => exact ⟨0, 0, ⟨false, [], false⟩, fs, _, FL, _, _, by omega, by omega, by have := Hfl.out; omega, rfl, Q5.out, Hr4.out, Hd4.out, Hl4.out, X4.out.1, X4.out.2.1, .inl ⟨rfl, rfl⟩, Hg4.out⟩
  case round =>
    obtain ⟨k, d, s, fs', FD, FL, A1, c1, hk, hd, hkd, rfl, h5, hrd, hdv, hln', hdis, hn5, hinv, hbw⟩ := hrel
    have KL := Lib.hid fun (X : World) (hwX : Below w.heap.size w X) => lives_any X (HL.out.belowN hwX hLN) (Nat.lt_of_lt_of_le hLN hwX.size)
    by_cases hkm : k < l.length + xs.length
    · have hki : (k : Int) < (l.length : Int) + (xs.length : Int) := by omega
      by_cases hdl : d < l.length
      · have hs : Tg.Sml l := ⟨by omega, fun j => by have := Hall.out j; omega⟩
        have hn0 : 0 < (l.drop d).length := by rw [List.length_drop]; omega
        have KO := Tg.offer_some wr (par d) A1 c1 (l.drop d) ((hrd.lt (by decide)).rds fun k hk => hk.2) hn0 (hs.drop d)
        rw [show (l.drop d).getD 0 [] = l.getD d [] by simp [List.getD]] at KO
        obtain ⟨ps, hps⟩ : ∃ ps, l.drop d = ps := ⟨_, rfl⟩
        have hsp : Tg.Sml ps := hps ▸ hs.drop d
        rw [hps] at KO h5 hrd hn0
        have Hps := Lib.hid hps
        obtain ⟨s2, fs2, sn, res, hR, hway⟩ := out_step l Hall.out d hdl s hinv fs'
        have hb64 := Hall.out d
        have hj := hinv.all hd hln Hall.out
        obtain ⟨b, hb⟩ : ∃ b, l.getD d [] = b := ⟨_, rfl⟩
        rw [hb] at KO hR hb64
        have hge : ∀ k, FD k ∨ FL k → w.heap.size ≤ k ∧ k < wr.heap.size := fun k hk => hk.elim ((recA _ _ _).ge hdv k) ((lineA _ _ _).ge hln' k)
        have hwN := hbw.size
        have KD := Lib.hid fun (X : World) (hbX : Below wr.heap.size wr X) (q : Nat) (hq : wr.heap.size ≤ q) (hrow : Row X q 5 b) => show Calls Tryd.prog 17 #[.iface 85 (.pointer (some ⟨gb, 0, none⟩)), .iface 26 (.pointer (some ⟨gl, 0, none⟩)), .agg #[.int .u8 0, .int .u8 0, .int .u8 1, .bool (par d), .bool false, .int .i64 0, .slice (some ⟨q, 0, none⟩) b.length b.length]] X (DoPost ((recA w.heap.size gb s2).sep (lineA w.heap.size gl fs2)) (fun k => FD k ∨ FL k) X (res, []) sn) from by
          have h0 : ((recA w.heap.size gb s).sep (lineA w.heap.size gl fs')).holds (fun k => FD k ∨ FL k) X := ⟨FD, FL, Asr.below hdv hbX hwN, Asr.below hln' hbX hwN, hdis, fun _ => Iff.rfl⟩
          have hwX := hbw.trans (hbX.mono hwN)
          have := do_any (D := recA w.heap.size gb) (W := lineA w.heap.size gl) (.inr ⟨_, _, rfl⟩) (.inr ⟨_, _, rfl⟩) (fault_line _ _) (fun bb => rec_askC (fault_line _ _) bb hLN) (askR_len _ _) (rec_askJ _) hLN X s hj fs' _ h0 (outTr (par d) b) (outTr_ok _ _ hb64) (some ⟨q, 0, none⟩) b.length ((row_rds hrow hq (by omega)).mono fun k hk hf => by have := hge k hf; omega) hwX.size (HL.out.belowN hwX hLN)
          rw [hR] at this
          exact this
        have H5 := Lib.hid h5
        have Hrd := Lib.hid hrd
        have Hn5 := Lib.hid hn5
        have Hbw := Lib.hid hbw
        have Hge := Lib.hid hge
        have Hkd := Lib.hid hkd
        have Hdis := Lib.hid hdis
        have Hn0 := Lib.hid hn0
        have Hs := Lib.hid hsp
        have Hway := Lib.hid hway
        have Hdl := Lib.hid hdl
        clear hway hR hb hj hge hwN hdv hln' hdis hn5 hrd h5 hinv hbw hkd hs hsp hps hn0
        go_wp2_with (refine wpl_loadB flatSnd rfl (.tmp 5) rfl _ rfl H5.out rfl ?_)
        refine KO.mono ?_
        rintro e x1 ⟨q, rfl, hq, hrow, bb1⟩
        have Hq := Lib.hid (And.intro hq hrow)
        have Hb1' := Lib.hid bb1
        clear hq hrow bb1 KO
        go_wp2_with fail
        refine (KD.out x1 Hb1'.out q Hq.out.1 Hq.out.2).mono ?_
        rintro e x2 ⟨A2, c2, A3, c3, S2, F2, rfl, hro, hrs, hF2, hh2, hm2, hFn⟩
        have hg5 := hm2.box ⟨(Hb1'.out.block _ (block_lt H5.out)).trans H5.out, Hn5.out⟩
        have hrd2 := RdL.mv (Hrd.out.below Hb1'.out (by decide)) (by decide) hm2
        obtain ⟨FD2, FL2, hD2, hL2, hdis2, hS2⟩ := hh2
        have hw2 : Below w.heap.size w x2 := (Hbw.out.trans (Hb1'.out.mono Hbw.out.size)).trans (hm2.belowN (fun k hk => (Hge.out k hk).1) (Nat.le_trans Hbw.out.size Hb1'.out.size))
        have hb13 := (Below.refl x2.heap.size x2).alloc (Nat.le_refl _) (.cells #[.int .u8 0, .slice none 0 0] 56)
        have k13 := Lib.hid (alloc1 x2 (.cells #[.int .u8 0, .slice none 0 0] 56))
        have B5 := Lib.hid hg5
        have RL := Lib.hid hrd2
        have HD2 := Lib.hid hD2
        have HL2 := Lib.hid hL2
        have Hdis2 := Lib.hid hdis2
        have HS2 := Lib.hid hS2
        have Hw2 := Lib.hid hw2
        have Hb13 := Lib.hid hb13
        clear hro hrs hF2 hm2 hFn hg5 hrd2 hD2 hL2 hdis2 hS2 hw2 hb13 KD Hq Hb1' H5 Hrd Hn5 Hbw Hge Hdis
        have hwx := Hw2.out.size
        rcases Hway.out with hw | hw
        · obtain ⟨rfl, hinv2, hlt⟩ := hw
          have Hinv2 := Lib.hid hinv2
          have Hlt := Lib.hid hlt
          clear hinv2 hlt
          go_wp2_with ((refine wpl_storeB flatOut rfl (.tmp 13) (.tmp 62) rfl _ rfl _ rfl k13.out rfl rfl rfl ?_; intro x3 k3 hg3 hs3; have hb3 := below_grown Hb13.out hg3 Hb13.out.size (Nat.le_refl _); have B53 := Lib.hid ((hb3.block _ (block_lt B5.out.1)).trans B5.out.1); have RL3 := Lib.hid (RL.out.below hb3 (by decide)); have HD := Lib.hid (Asr.below HD2.out hb3 hwx); have HL3 := Lib.hid (Asr.below HL2.out hb3 hwx); have HW3 := Lib.hid (Hw2.out.trans (hb3.mono hwx)); have eo := block_at k3 (i := 0) (v := .int .u8 (4 : Int)) rfl; clear k3 hg3 hs3 hb3))
          clear eo
          obtain ⟨⟨Ag, cg, hb1, hb2⟩, hb3, hb4⟩ := id HD.out
          have hlen := (Hinv2.out).len (show d ≤ l.length by omega)
          have KLi := Lib.hid fun (Y : World) (hY : Below x3.heap.size x3 Y) => lists_any Y Ag A cg c l.length s2.got ((((hb2.lt (by decide)).keep (w' := Y) fun k hk => hY.block k hk.2).mono (G := fun k => k < Y.heap.size) (fun k hk => Nat.lt_of_lt_of_le hk.2 hY.size)).rds (fun k hk => hk)) l (Hl.out.belowTop ((HW3.out).trans (hY.mono (HW3.out).size))) rfl hlen.1 ((Hinv2.out).pre (by omega)) (by omega)
          obtain ⟨r, hr⟩ : ∃ r, ps.length = r := ⟨_, rfl⟩
          have hr2 : r = l.length - (d) := by rw [← hr, ← Hps.out, List.length_drop]
          have B52 := B53.out
          rw [hr] at B52
          have e5 := block_at B52 (i := 1) (v := .slice A1 r c1) rfl
          have e6 := block_at hb1 (i := 1) (v := .slice Ag s2.got.length cg) rfl
          obtain ⟨m2, hm2⟩ : ∃ m2, s2.got.length = m2 := ⟨_, rfl⟩
          rw [hm2] at hlen KLi e6
          have hsub : (l.length : Int) - (r : Int) = ((d : Nat) : Int) := by omega
          obtain ⟨dd, hdd⟩ : ∃ dd, (d) = dd := ⟨_, rfl⟩
          rw [hdd] at hsub
          have t1 : ¬ (m2 : Int) < (dd : Int) := by omega
          have t2 : ¬ (dd : Int) + 1 < (m2 : Int) := by omega
          have lt5 := block_lt B52
          have lt6 := block_lt hb1
          have LT := Lib.hid (And.intro lt5 lt6)
          have Hdd := Lib.hid hdd
          have Hr := Lib.hid hr
          clear hb1 hb2 hb3 hb4 B52 lt5 lt6 hdd hr hr2
          go_wp2
          refine startTP (S := fun a => a.block = g5 ∨ a.block = gb) (T := []) (fun Y => Below x3.heap.size x3 Y ∧ Y.cell? ⟨g5, 1, none⟩ = some (.slice A1 r c1) ∧ Y.cell? ⟨gb, 1, none⟩ = some (.slice Ag m2 cg)) 15 (by kernel_rfl) rfl (l := #[false, false, false, false, false, false, false, false, false, false, false, false, false, false, false]) rfl ⟨(Below.refl _ _).drew, e5, e6⟩ ?_
          clear e5 e6
          rintro x0 ⟨hb, d5, d6⟩
          ((first | (refine takeT 0 (v := ?_) rfl (by decide +kernel) (by decide +kernel) (by decide +kernel) (fun _ _ _ h => h) (by decide +kernel) (Or.inl ⟨by rfl, ?_⟩) ?_; rotate_left 1; (focus (intro W hW; have hcW := hW.at; (try dsimp only at hcW); go_simp; first | done | with_reducible rfl)); try simp only [Act.put, List.setIfInBounds_toArray, List.set_cons_zero, List.set_cons_succ]) | (refine takeW 0 (v := ?_) rfl (by decide +kernel) (by decide +kernel) (by decide +kernel) (fun _ _ _ h => h) (Or.inl ⟨by rfl, ?_⟩) ?_; rotate_left 1; (focus (intro W hW; go_simp; first | done | with_reducible rfl)); try simp only [Act.put, List.setIfInBounds_toArray, List.set_cons_zero, List.set_cons_succ]) | (refine takeW 0 rfl (by decide +kernel) (by decide +kernel) (by decide +kernel) (fun _ _ _ h => h) (Or.inr ⟨by rfl, rfl⟩) ?_; try simp only [Act.put, List.setIfInBounds_toArray, List.set_cons_zero, List.set_cons_succ]) | skip); (first | (refine takeT 1 (v := ?_) rfl (by decide +kernel) (by decide +kernel) (by decide +kernel) (fun _ _ _ h => h) (by decide +kernel) (Or.inl ⟨by rfl, ?_⟩) ?_; rotate_left 1; (focus (intro W hW; have hcW := hW.at; (try dsimp only at hcW); go_simp; first | done | with_reducible rfl)); try simp only [Act.put, List.setIfInBounds_toArray, List.set_cons_zero, List.set_cons_succ]) | (refine takeW 1 (v := ?_) rfl (by decide +kernel) (by decide +kernel) (by decide +kernel) (fun _ _ _ h => h) (Or.inl ⟨by rfl, ?_⟩) ?_; rotate_left 1; (focus (intro W hW; go_simp; first | done | with_reducible rfl)); try simp only [Act.put, List.setIfInBounds_toArray, List.set_cons_zero, List.set_cons_succ]) | (refine takeW 1 rfl (by decide +kernel) (by decide +kernel) (by decide +kernel) (fun _ _ _ h => h) (Or.inr ⟨by rfl, rfl⟩) ?_; try simp only [Act.put, List.setIfInBounds_toArray, List.set_cons_zero, List.set_cons_succ]) | skip); (first | (refine takeT 2 (v := ?_) rfl (by decide +kernel) (by decide +kernel) (by decide +kernel) (fun _ _ _ h => h) (by decide +kernel) (Or.inl ⟨by rfl, ?_⟩) ?_; rotate_left 1; (focus (intro W hW; have hcW := hW.at; (try dsimp only at hcW); go_simp; first | done | with_reducible rfl)); try simp only [Act.put, List.setIfInBounds_toArray, List.set_cons_zero, List.set_cons_succ]) | (refine takeW 2 (v := ?_) rfl (by decide +kernel) (by decide +kernel) (by decide +kernel) (fun _ _ _ h => h) (Or.inl ⟨by rfl, ?_⟩) ?_; rotate_left 1; (focus (intro W hW; go_simp; first | done | with_reducible rfl)); try simp only [Act.put, List.setIfInBounds_toArray, List.set_cons_zero, List.set_cons_succ]) | (refine takeW 2 rfl (by decide +kernel) (by decide +kernel) (by decide +kernel) (fun _ _ _ h => h) (Or.inr ⟨by rfl, rfl⟩) ?_; try simp only [Act.put, List.setIfInBounds_toArray, List.set_cons_zero, List.set_cons_succ]) | skip); (first | (refine takeT 3 (v := ?_) rfl (by decide +kernel) (by decide +kernel) (by decide +kernel) (fun _ _ _ h => h) (by decide +kernel) (Or.inl ⟨by rfl, ?_⟩) ?_; rotate_left 1; (focus (intro W hW; have hcW := hW.at; (try dsimp only at hcW); go_simp; first | done | with_reducible rfl)); try simp only [Act.put, List.setIfInBounds_toArray, List.set_cons_zero, List.set_cons_succ]) | (refine takeW 3 (v := ?_) rfl (by decide +kernel) (by decide +kernel) (by decide +kernel) (fun _ _ _ h => h) (Or.inl ⟨by rfl, ?_⟩) ?_; rotate_left 1; (focus (intro W hW; go_simp; first | done | with_reducible rfl)); try simp only [Act.put, List.setIfInBounds_toArray, List.set_cons_zero, List.set_cons_succ]) | (refine takeW 3 rfl (by decide +kernel) (by decide +kernel) (by decide +kernel) (fun _ _ _ h => h) (Or.inr ⟨by rfl, rfl⟩) ?_; try simp only [Act.put, List.setIfInBounds_toArray, List.set_cons_zero, List.set_cons_succ]) | skip); (first | (refine takeT 4 (v := ?_) rfl (by decide +kernel) (by decide +kernel) (by decide +kernel) (fun _ _ _ h => h) (by decide +kernel) (Or.inl ⟨by rfl, ?_⟩) ?_; rotate_left 1; (focus (intro W hW; have hcW := hW.at; (try dsimp only at hcW); go_simp; first | done | with_reducible rfl)); try simp only [Act.put, List.setIfInBounds_toArray, List.set_cons_zero, List.set_cons_succ]) | (refine takeW 4 (v := ?_) rfl (by decide +kernel) (by decide +kernel) (by decide +kernel) (fun _ _ _ h => h) (Or.inl ⟨by rfl, ?_⟩) ?_; rotate_left 1; (focus (intro W hW; go_simp; first | done | with_reducible rfl)); try simp only [Act.put, List.setIfInBounds_toArray, List.set_cons_zero, List.set_cons_succ]) | (refine takeW 4 rfl (by decide +kernel) (by decide +kernel) (by decide +kernel) (fun _ _ _ h => h) (Or.inr ⟨by rfl, rfl⟩) ?_; try simp only [Act.put, List.setIfInBounds_toArray, List.set_cons_zero, List.set_cons_succ]) | skip); (first | (refine takeT 5 (v := ?_) rfl (by decide +kernel) (by decide +kernel) (by decide +kernel) (fun _ _ _ h => h) (by decide +kernel) (Or.inl ⟨by rfl, ?_⟩) ?_; rotate_left 1; (focus (intro W hW; have hcW := hW.at; (try dsimp only at hcW); go_simp; first | done | with_reducible rfl)); try simp only [Act.put, List.setIfInBounds_toArray, List.set_cons_zero, List.set_cons_succ]) | (refine takeW 5 (v := ?_) rfl (by decide +kernel) (by decide +kernel) (by decide +kernel) (fun _ _ _ h => h) (Or.inl ⟨by rfl, ?_⟩) ?_; rotate_left 1; (focus (intro W hW; go_simp; first | done | with_reducible rfl)); try simp only [Act.put, List.setIfInBounds_toArray, List.set_cons_zero, List.set_cons_succ]) | (refine takeW 5 rfl (by decide +kernel) (by decide +kernel) (by decide +kernel) (fun _ _ _ h => h) (Or.inr ⟨by rfl, rfl⟩) ?_; try simp only [Act.put, List.setIfInBounds_toArray, List.set_cons_zero, List.set_cons_succ]) | skip); (first | (refine takeT 6 (v := ?_) rfl (by decide +kernel) (by decide +kernel) (by decide +kernel) (fun _ _ _ h => h) (by decide +kernel) (Or.inl ⟨by rfl, ?_⟩) ?_; rotate_left 1; (focus (intro W hW; have hcW := hW.at; (try dsimp only at hcW); go_simp; first | done | with_reducible rfl)); try simp only [Act.put, List.setIfInBounds_toArray, List.set_cons_zero, List.set_cons_succ]) | (refine takeW 6 (v := ?_) rfl (by decide +kernel) (by decide +kernel) (by decide +kernel) (fun _ _ _ h => h) (Or.inl ⟨by rfl, ?_⟩) ?_; rotate_left 1; (focus (intro W hW; go_simp; first | done | with_reducible rfl)); try simp only [Act.put, List.setIfInBounds_toArray, List.set_cons_zero, List.set_cons_succ]) | (refine takeW 6 rfl (by decide +kernel) (by decide +kernel) (by decide +kernel) (fun _ _ _ h => h) (Or.inr ⟨by rfl, rfl⟩) ?_; try simp only [Act.put, List.setIfInBounds_toArray, List.set_cons_zero, List.set_cons_succ]) | skip); (first | (refine takeT 7 (v := ?_) rfl (by decide +kernel) (by decide +kernel) (by decide +kernel) (fun _ _ _ h => h) (by decide +kernel) (Or.inl ⟨by rfl, ?_⟩) ?_; rotate_left 1; (focus (intro W hW; have hcW := hW.at; (try dsimp only at hcW); go_simp; first | done | with_reducible rfl)); try simp only [Act.put, List.setIfInBounds_toArray, List.set_cons_zero, List.set_cons_succ]) | (refine takeW 7 (v := ?_) rfl (by decide +kernel) (by decide +kernel) (by decide +kernel) (fun _ _ _ h => h) (Or.inl ⟨by rfl, ?_⟩) ?_; rotate_left 1; (focus (intro W hW; go_simp; first | done | with_reducible rfl)); try simp only [Act.put, List.setIfInBounds_toArray, List.set_cons_zero, List.set_cons_succ]) | (refine takeW 7 rfl (by decide +kernel) (by decide +kernel) (by decide +kernel) (fun _ _ _ h => h) (Or.inr ⟨by rfl, rfl⟩) ?_; try simp only [Act.put, List.setIfInBounds_toArray, List.set_cons_zero, List.set_cons_succ]) | skip); (first | (refine takeT 8 (v := ?_) rfl (by decide +kernel) (by decide +kernel) (by decide +kernel) (fun _ _ _ h => h) (by decide +kernel) (Or.inl ⟨by rfl, ?_⟩) ?_; rotate_left 1; (focus (intro W hW; have hcW := hW.at; (try dsimp only at hcW); go_simp; first | done | with_reducible rfl)); try simp only [Act.put, List.setIfInBounds_toArray, List.set_cons_zero, List.set_cons_succ]) | (refine takeW 8 (v := ?_) rfl (by decide +kernel) (by decide +kernel) (by decide +kernel) (fun _ _ _ h => h) (Or.inl ⟨by rfl, ?_⟩) ?_; rotate_left 1; (focus (intro W hW; go_simp; first | done | with_reducible rfl)); try simp only [Act.put, List.setIfInBounds_toArray, List.set_cons_zero, List.set_cons_succ]) | (refine takeW 8 rfl (by decide +kernel) (by decide +kernel) (by decide +kernel) (fun _ _ _ h => h) (Or.inr ⟨by rfl, rfl⟩) ?_; try simp only [Act.put, List.setIfInBounds_toArray, List.set_cons_zero, List.set_cons_succ]) | skip); (first | (refine takeT 9 (v := ?_) rfl (by decide +kernel) (by decide +kernel) (by decide +kernel) (fun _ _ _ h => h) (by decide +kernel) (Or.inl ⟨by rfl, ?_⟩) ?_; rotate_left 1; (focus (intro W hW; have hcW := hW.at; (try dsimp only at hcW); go_simp; first | done | with_reducible rfl)); try simp only [Act.put, List.setIfInBounds_toArray, List.set_cons_zero, List.set_cons_succ]) | (refine takeW 9 (v := ?_) rfl (by decide +kernel) (by decide +kernel) (by decide +kernel) (fun _ _ _ h => h) (Or.inl ⟨by rfl, ?_⟩) ?_; rotate_left 1; (focus (intro W hW; go_simp; first | done | with_reducible rfl)); try simp only [Act.put, List.setIfInBounds_toArray, List.set_cons_zero, List.set_cons_succ]) | (refine takeW 9 rfl (by decide +kernel) (by decide +kernel) (by decide +kernel) (fun _ _ _ h => h) (Or.inr ⟨by rfl, rfl⟩) ?_; try simp only [Act.put, List.setIfInBounds_toArray, List.set_cons_zero, List.set_cons_succ]) | skip); (first | (refine takeT 10 (v := ?_) rfl (by decide +kernel) (by decide +kernel) (by decide +kernel) (fun _ _ _ h => h) (by decide +kernel) (Or.inl ⟨by rfl, ?_⟩) ?_; rotate_left 1; (focus (intro W hW; have hcW := hW.at; (try dsimp only at hcW); go_simp; first | done | with_reducible rfl)); try simp only [Act.put, List.setIfInBounds_toArray, List.set_cons_zero, List.set_cons_succ]) | (refine takeW 10 (v := ?_) rfl (by decide +kernel) (by decide +kernel) (by decide +kernel) (fun _ _ _ h => h) (Or.inl ⟨by rfl, ?_⟩) ?_; rotate_left 1; (focus (intro W hW; go_simp; first | done | with_reducible rfl)); try simp only [Act.put, List.setIfInBounds_toArray, List.set_cons_zero, List.set_cons_succ]) | (refine takeW 10 rfl (by decide +kernel) (by decide +kernel) (by decide +kernel) (fun _ _ _ h => h) (Or.inr ⟨by rfl, rfl⟩) ?_; try simp only [Act.put, List.setIfInBounds_toArray, List.set_cons_zero, List.set_cons_succ]) | skip); (first | (refine takeT 11 (v := ?_) rfl (by decide +kernel) (by decide +kernel) (by decide +kernel) (fun _ _ _ h => h) (by decide +kernel) (Or.inl ⟨by rfl, ?_⟩) ?_; rotate_left 1; (focus (intro W hW; have hcW := hW.at; (try dsimp only at hcW); go_simp; first | done | with_reducible rfl)); try simp only [Act.put, List.setIfInBounds_toArray, List.set_cons_zero, List.set_cons_succ]) | (refine takeW 11 (v := ?_) rfl (by decide +kernel) (by decide +kernel) (by decide +kernel) (fun _ _ _ h => h) (Or.inl ⟨by rfl, ?_⟩) ?_; rotate_left 1; (focus (intro W hW; go_simp; first | done | with_reducible rfl)); try simp only [Act.put, List.setIfInBounds_toArray, List.set_cons_zero, List.set_cons_succ]) | (refine takeW 11 rfl (by decide +kernel) (by decide +kernel) (by decide +kernel) (fun _ _ _ h => h) (Or.inr ⟨by rfl, rfl⟩) ?_; try simp only [Act.put, List.setIfInBounds_toArray, List.set_cons_zero, List.set_cons_succ]) | skip))
          clear d5 d6
          refine stepT 12 rfl (by decide +kernel) (by rfl) ?_
          intro K hK
          go_simp
          refine (KLi.out x0 hb).mono ?_
          rintro e x1' ⟨rfl, bb⟩
          have lz := hb.size
          have lt := LT.out
          refine hK _ _ (.inr (fun a ha => bb.cell (by rcases ha with h | h <;> omega))) ?_
          clear hK K lt lz
          try simp only [Act.put, List.setIfInBounds_toArray, List.set_cons_zero, List.set_cons_succ]
          have HB := Lib.hid (hb.trans (bb.mono hb.size))
          clear hb bb
          ((first | (refine takeT 13 (v := ?_) rfl (by decide +kernel) (by decide +kernel) (by decide +kernel) (fun _ _ _ h => h) (by decide +kernel) (Or.inl ⟨by rfl, ?_⟩) ?_; rotate_left 1; (focus (intro W hW; have hcW := hW.at; (try dsimp only at hcW); go_simp; first | done | with_reducible rfl)); try simp only [Act.put, List.setIfInBounds_toArray, List.set_cons_zero, List.set_cons_succ]) | (refine takeW 13 (v := ?_) rfl (by decide +kernel) (by decide +kernel) (by decide +kernel) (fun _ _ _ h => h) (Or.inl ⟨by rfl, ?_⟩) ?_; rotate_left 1; (focus (intro W hW; go_simp; first | done | with_reducible rfl)); try simp only [Act.put, List.setIfInBounds_toArray, List.set_cons_zero, List.set_cons_succ]) | (refine takeW 13 rfl (by decide +kernel) (by decide +kernel) (by decide +kernel) (fun _ _ _ h => h) (Or.inr ⟨by rfl, rfl⟩) ?_; try simp only [Act.put, List.setIfInBounds_toArray, List.set_cons_zero, List.set_cons_succ]) | skip); (first | (refine takeT 14 (v := ?_) rfl (by decide +kernel) (by decide +kernel) (by decide +kernel) (fun _ _ _ h => h) (by decide +kernel) (Or.inl ⟨by rfl, ?_⟩) ?_; rotate_left 1; (focus (intro W hW; have hcW := hW.at; (try dsimp only at hcW); go_simp; first | done | with_reducible rfl)); try simp only [Act.put, List.setIfInBounds_toArray, List.set_cons_zero, List.set_cons_succ]) | (refine takeW 14 (v := ?_) rfl (by decide +kernel) (by decide +kernel) (by decide +kernel) (fun _ _ _ h => h) (Or.inl ⟨by rfl, ?_⟩) ?_; rotate_left 1; (focus (intro W hW; go_simp; first | done | with_reducible rfl)); try simp only [Act.put, List.setIfInBounds_toArray, List.set_cons_zero, List.set_cons_succ]) | (refine takeW 14 rfl (by decide +kernel) (by decide +kernel) (by decide +kernel) (fun _ _ _ h => h) (Or.inr ⟨by rfl, rfl⟩) ?_; try simp only [Act.put, List.setIfInBounds_toArray, List.set_cons_zero, List.set_cons_succ]) | skip))
          refine doneT (by kernel_rfl) ?_
          go_wp2
          go_roundw
          case rel =>
            have hb5 := HB.out.block _ (block_lt B53.out)
            have hps := Hps.out
            subst hps
            exact ⟨k + 1, d, s2, fs2, FD2, FL2, A1, c1, by omega, hd, by have := Hlt.out; have := Hkd.out; omega, by go_num, hb5.trans B53.out, (RL3.out.below HB.out (by decide)).mono fun k hk h => hk ((HS2.out k).2 h), Asr.below HD.out HB.out HW3.out.size, Asr.below HL3.out HB.out HW3.out.size, Hdis2.out, fun h => B5.out.2 ((HS2.out _).2 h), Hinv2.out, HW3.out.trans (HB.out.mono HW3.out.size)⟩
          case measure => simp [intOf]; omega
        · obtain ⟨rfl, hinv2, hle⟩ := hw
          have Hinv2 := Lib.hid hinv2
          have Hle := Lib.hid hle
          clear hinv2 hle
          go_wp2_with (first | (refine wpl_storeB flatOut rfl (.tmp 13) (.tmp 62) rfl _ rfl _ rfl k13.out rfl rfl rfl ?_; intro x3 k3 hg3 hs3; have hb3 := below_grown Hb13.out hg3 Hb13.out.size (Nat.le_refl _); have B53 := Lib.hid ((hb3.block _ (block_lt B5.out.1)).trans B5.out.1); have RL3 := Lib.hid (RL.out.below hb3 (by decide)); have HD := Lib.hid (Asr.below HD2.out hb3 hwx); have HL3 := Lib.hid (Asr.below HL2.out hb3 hwx); have HW3 := Lib.hid (Hw2.out.trans (hb3.mono hwx)); have eo := block_at k3 (i := 0) (v := .int .u8 (1 : Int)) rfl; clear k3 hg3 hs3 hb3) | (refine wpl_loadB flatSnd rfl (.tmp 5) rfl _ rfl B53.out rfl ?_))
          clear eo
          refine (Tg.acks_some x3 (par d) A1 c1 ps ((RL3.out.lt (by decide)).rds fun k hk => hk.2) Hn0.out Hs.out).mono ?_
          rintro e x4 ⟨g4, rfl, hn4, bb4⟩
          obtain ⟨qs, hqs⟩ : ∃ qs, ps.drop 1 = qs := ⟨_, rfl⟩
          rw [hqs] at hn4 ⊢
          have Hqs := Lib.hid (show l.drop (d + 1) = qs by rw [← hqs, ← Hps.out, List.drop_drop])
          have HD3c := HD
          have HL3c := HL3
          have hs4 : Tg.Sml qs := hqs ▸ Hs.out.drop 1
          clear hqs
          have R4 := Lib.hid (News.rdl hn4 hs4)
          have B54 := Lib.hid ((bb4.block _ (block_lt B53.out)).trans B53.out)
          have Bb4 := Lib.hid bb4
          have HD4 := Lib.hid (Asr.below HD.out bb4 HW3.out.size)
          have HL4 := Lib.hid (Asr.below HL3.out bb4 HW3.out.size)
          have HW4 := Lib.hid (HW3.out.trans (bb4.mono HW3.out.size))
          clear hn4 bb4 hs4 HD HL3
          have hw4 := HW4.out.size
          go_wp2_with (refine wpl_storeB flatSnd rfl (.tmp 5) (.tmp 70) rfl _ rfl _ rfl B54.out rfl rfl rfl ?_; intro x5 k5 hg5 hs5; have B55 := Lib.hid k5; have n5 := B5.out.2; have l5 := block_lt B53.out; have R5 := Lib.hid (R4.out.grown hg5 (fun k hk => by omega) (by decide)); have HD := Lib.hid (Asr.grown HD4.out hg5 (fun h => n5 ((HS2.out _).2 (.inl h))) (Nat.le_trans Hg5w.out (Nat.le_refl _)) hw4); have HL5 := Lib.hid (Asr.grown HL4.out hg5 (fun h => n5 ((HS2.out _).2 (.inr h))) Hg5w.out hw4); have HW5 := Lib.hid (below_grown HW4.out hg5 hw4 Hg5w.out); have hs5' := hs5; clear k5 hg5 hs5 n5 l5)
          have H45 := Lib.hid (show x5.heap.size = x4.heap.size from hs5')
          clear hs5'
          obtain ⟨⟨Ag, cg, hb1, hb2⟩, hb3, hb4⟩ := id HD.out
          have hlen := (Hinv2.out).len (show d + 1 ≤ l.length by omega)
          have KLi := Lib.hid fun (Y : World) (hY : Below x5.heap.size x5 Y) => lists_any Y Ag A cg c l.length s2.got ((((hb2.lt (by decide)).keep (w' := Y) fun k hk => hY.block k hk.2).mono (G := fun k => k < Y.heap.size) (fun k hk => Nat.lt_of_lt_of_le hk.2 hY.size)).rds (fun k hk => hk)) l (Hl.out.belowTop ((HW5.out).trans (hY.mono (HW5.out).size))) rfl hlen.1 ((Hinv2.out).pre (by omega)) (by omega)
          obtain ⟨r, hr⟩ : ∃ r, qs.length = r := ⟨_, rfl⟩
          have hr2 : r = l.length - (d + 1) := by rw [← hr, ← Hqs.out, List.length_drop]
          have B52 := B55.out
          rw [hr] at B52
          have e5 := block_at B52 (i := 1) (v := .slice (some ⟨g4, 0, none⟩) r r) rfl
          have e6 := block_at hb1 (i := 1) (v := .slice Ag s2.got.length cg) rfl
          obtain ⟨m2, hm2⟩ : ∃ m2, s2.got.length = m2 := ⟨_, rfl⟩
          rw [hm2] at hlen KLi e6
          have hsub : (l.length : Int) - (r : Int) = ((d + 1 : Nat) : Int) := by omega
          obtain ⟨dd, hdd⟩ : ∃ dd, (d + 1) = dd := ⟨_, rfl⟩
          rw [hdd] at hsub
          have t1 : ¬ (m2 : Int) < (dd : Int) := by omega
          have t2 : ¬ (dd : Int) + 1 < (m2 : Int) := by omega
          have lt5 := block_lt B52
          have lt6 := block_lt hb1
          have LT := Lib.hid (And.intro lt5 lt6)
          have Hdd := Lib.hid hdd
          have Hr := Lib.hid hr
          clear hb1 hb2 hb3 hb4 B52 lt5 lt6 hdd hr hr2
          go_wp2
          refine startTP (S := fun a => a.block = g5 ∨ a.block = gb) (T := []) (fun Y => Below x5.heap.size x5 Y ∧ Y.cell? ⟨g5, 1, none⟩ = some (.slice (some ⟨g4, 0, none⟩) r r) ∧ Y.cell? ⟨gb, 1, none⟩ = some (.slice Ag m2 cg)) 15 (by kernel_rfl) rfl (l := #[false, false, false, false, false, false, false, false, false, false, false, false, false, false, false]) rfl ⟨(Below.refl _ _).drew, e5, e6⟩ ?_
          clear e5 e6
          rintro x0 ⟨hb, d5, d6⟩
          ((first | (refine takeT 0 (v := ?_) rfl (by decide +kernel) (by decide +kernel) (by decide +kernel) (fun _ _ _ h => h) (by decide +kernel) (Or.inl ⟨by rfl, ?_⟩) ?_; rotate_left 1; (focus (intro W hW; have hcW := hW.at; (try dsimp only at hcW); go_simp; first | done | with_reducible rfl)); try simp only [Act.put, List.setIfInBounds_toArray, List.set_cons_zero, List.set_cons_succ]) | (refine takeW 0 (v := ?_) rfl (by decide +kernel) (by decide +kernel) (by decide +kernel) (fun _ _ _ h => h) (Or.inl ⟨by rfl, ?_⟩) ?_; rotate_left 1; (focus (intro W hW; go_simp; first | done | with_reducible rfl)); try simp only [Act.put, List.setIfInBounds_toArray, List.set_cons_zero, List.set_cons_succ]) | (refine takeW 0 rfl (by decide +kernel) (by decide +kernel) (by decide +kernel) (fun _ _ _ h => h) (Or.inr ⟨by rfl, rfl⟩) ?_; try simp only [Act.put, List.setIfInBounds_toArray, List.set_cons_zero, List.set_cons_succ]) | skip); (first | (refine takeT 1 (v := ?_) rfl (by decide +kernel) (by decide +kernel) (by decide +kernel) (fun _ _ _ h => h) (by decide +kernel) (Or.inl ⟨by rfl, ?_⟩) ?_; rotate_left 1; (focus (intro W hW; have hcW := hW.at; (try dsimp only at hcW); go_simp; first | done | with_reducible rfl)); try simp only [Act.put, List.setIfInBounds_toArray, List.set_cons_zero, List.set_cons_succ]) | (refine takeW 1 (v := ?_) rfl (by decide +kernel) (by decide +kernel) (by decide +kernel) (fun _ _ _ h => h) (Or.inl ⟨by rfl, ?_⟩) ?_; rotate_left 1; (focus (intro W hW; go_simp; first | done | with_reducible rfl)); try simp only [Act.put, List.setIfInBounds_toArray, List.set_cons_zero, List.set_cons_succ]) | (refine takeW 1 rfl (by decide +kernel) (by decide +kernel) (by decide +kernel) (fun _ _ _ h => h) (Or.inr ⟨by rfl, rfl⟩) ?_; try simp only [Act.put, List.setIfInBounds_toArray, List.set_cons_zero, List.set_cons_succ]) | skip); (first | (refine takeT 2 (v := ?_) rfl (by decide +kernel) (by decide +kernel) (by decide +kernel) (fun _ _ _ h => h) (by decide +kernel) (Or.inl ⟨by rfl, ?_⟩) ?_; rotate_left 1; (focus (intro W hW; have hcW := hW.at; (try dsimp only at hcW); go_simp; first | done | with_reducible rfl)); try simp only [Act.put, List.setIfInBounds_toArray, List.set_cons_zero, List.set_cons_succ]) | (refine takeW 2 (v := ?_) rfl (by decide +kernel) (by decide +kernel) (by decide +kernel) (fun _ _ _ h => h) (Or.inl ⟨by rfl, ?_⟩) ?_; rotate_left 1; (focus (intro W hW; go_simp; first | done | with_reducible rfl)); try simp only [Act.put, List.setIfInBounds_toArray, List.set_cons_zero, List.set_cons_succ]) | (refine takeW 2 rfl (by decide +kernel) (by decide +kernel) (by decide +kernel) (fun _ _ _ h => h) (Or.inr ⟨by rfl, rfl⟩) ?_; try simp only [Act.put, List.setIfInBounds_toArray, List.set_cons_zero, List.set_cons_succ]) | skip); (first | (refine takeT 3 (v := ?_) rfl (by decide +kernel) (by decide +kernel) (by decide +kernel) (fun _ _ _ h => h) (by decide +kernel) (Or.inl ⟨by rfl, ?_⟩) ?_; rotate_left 1; (focus (intro W hW; have hcW := hW.at; (try dsimp only at hcW); go_simp; first | done | with_reducible rfl)); try simp only [Act.put, List.setIfInBounds_toArray, List.set_cons_zero, List.set_cons_succ]) | (refine takeW 3 (v := ?_) rfl (by decide +kernel) (by decide +kernel) (by decide +kernel) (fun _ _ _ h => h) (Or.inl ⟨by rfl, ?_⟩) ?_; rotate_left 1; (focus (intro W hW; go_simp; first | done | with_reducible rfl)); try simp only [Act.put, List.setIfInBounds_toArray, List.set_cons_zero, List.set_cons_succ]) | (refine takeW 3 rfl (by decide +kernel) (by decide +kernel) (by decide +kernel) (fun _ _ _ h => h) (Or.inr ⟨by rfl, rfl⟩) ?_; try simp only [Act.put, List.setIfInBounds_toArray, List.set_cons_zero, List.set_cons_succ]) | skip); (first | (refine takeT 4 (v := ?_) rfl (by decide +kernel) (by decide +kernel) (by decide +kernel) (fun _ _ _ h => h) (by decide +kernel) (Or.inl ⟨by rfl, ?_⟩) ?_; rotate_left 1; (focus (intro W hW; have hcW := hW.at; (try dsimp only at hcW); go_simp; first | done | with_reducible rfl)); try simp only [Act.put, List.setIfInBounds_toArray, List.set_cons_zero, List.set_cons_succ]) | (refine takeW 4 (v := ?_) rfl (by decide +kernel) (by decide +kernel) (by decide +kernel) (fun _ _ _ h => h) (Or.inl ⟨by rfl, ?_⟩) ?_; rotate_left 1; (focus (intro W hW; go_simp; first | done | with_reducible rfl)); try simp only [Act.put, List.setIfInBounds_toArray, List.set_cons_zero, List.set_cons_succ]) | (refine takeW 4 rfl (by decide +kernel) (by decide +kernel) (by decide +kernel) (fun _ _ _ h => h) (Or.inr ⟨by rfl, rfl⟩) ?_; try simp only [Act.put, List.setIfInBounds_toArray, List.set_cons_zero, List.set_cons_succ]) | skip); (first | (refine takeT 5 (v := ?_) rfl (by decide +kernel) (by decide +kernel) (by decide +kernel) (fun _ _ _ h => h) (by decide +kernel) (Or.inl ⟨by rfl, ?_⟩) ?_; rotate_left 1; (focus (intro W hW; have hcW := hW.at; (try dsimp only at hcW); go_simp; first | done | with_reducible rfl)); try simp only [Act.put, List.setIfInBounds_toArray, List.set_cons_zero, List.set_cons_succ]) | (refine takeW 5 (v := ?_) rfl (by decide +kernel) (by decide +kernel) (by decide +kernel) (fun _ _ _ h => h) (Or.inl ⟨by rfl, ?_⟩) ?_; rotate_left 1; (focus (intro W hW; go_simp; first | done | with_reducible rfl)); try simp only [Act.put, List.setIfInBounds_toArray, List.set_cons_zero, List.set_cons_succ]) | (refine takeW 5 rfl (by decide +kernel) (by decide +kernel) (by decide +kernel) (fun _ _ _ h => h) (Or.inr ⟨by rfl, rfl⟩) ?_; try simp only [Act.put, List.setIfInBounds_toArray, List.set_cons_zero, List.set_cons_succ]) | skip); (first | (refine takeT 6 (v := ?_) rfl (by decide +kernel) (by decide +kernel) (by decide +kernel) (fun _ _ _ h => h) (by decide +kernel) (Or.inl ⟨by rfl, ?_⟩) ?_; rotate_left 1; (focus (intro W hW; have hcW := hW.at; (try dsimp only at hcW); go_simp; first | done | with_reducible rfl)); try simp only [Act.put, List.setIfInBounds_toArray, List.set_cons_zero, List.set_cons_succ]) | (refine takeW 6 (v := ?_) rfl (by decide +kernel) (by decide +kernel) (by decide +kernel) (fun _ _ _ h => h) (Or.inl ⟨by rfl, ?_⟩) ?_; rotate_left 1; (focus (intro W hW; go_simp; first | done | with_reducible rfl)); try simp only [Act.put, List.setIfInBounds_toArray, List.set_cons_zero, List.set_cons_succ]) | (refine takeW 6 rfl (by decide +kernel) (by decide +kernel) (by decide +kernel) (fun _ _ _ h => h) (Or.inr ⟨by rfl, rfl⟩) ?_; try simp only [Act.put, List.setIfInBounds_toArray, List.set_cons_zero, List.set_cons_succ]) | skip); (first | (refine takeT 7 (v := ?_) rfl (by decide +kernel) (by decide +kernel) (by decide +kernel) (fun _ _ _ h => h) (by decide +kernel) (Or.inl ⟨by rfl, ?_⟩) ?_; rotate_left 1; (focus (intro W hW; have hcW := hW.at; (try dsimp only at hcW); go_simp; first | done | with_reducible rfl)); try simp only [Act.put, List.setIfInBounds_toArray, List.set_cons_zero, List.set_cons_succ]) | (refine takeW 7 (v := ?_) rfl (by decide +kernel) (by decide +kernel) (by decide +kernel) (fun _ _ _ h => h) (Or.inl ⟨by rfl, ?_⟩) ?_; rotate_left 1; (focus (intro W hW; go_simp; first | done | with_reducible rfl)); try simp only [Act.put, List.setIfInBounds_toArray, List.set_cons_zero, List.set_cons_succ]) | (refine takeW 7 rfl (by decide +kernel) (by decide +kernel) (by decide +kernel) (fun _ _ _ h => h) (Or.inr ⟨by rfl, rfl⟩) ?_; try simp only [Act.put, List.setIfInBounds_toArray, List.set_cons_zero, List.set_cons_succ]) | skip); (first | (refine takeT 8 (v := ?_) rfl (by decide +kernel) (by decide +kernel) (by decide +kernel) (fun _ _ _ h => h) (by decide +kernel) (Or.inl ⟨by rfl, ?_⟩) ?_; rotate_left 1; (focus (intro W hW; have hcW := hW.at; (try dsimp only at hcW); go_simp; first | done | with_reducible rfl)); try simp only [Act.put, List.setIfInBounds_toArray, List.set_cons_zero, List.set_cons_succ]) | (refine takeW 8 (v := ?_) rfl (by decide +kernel) (by decide +kernel) (by decide +kernel) (fun _ _ _ h => h) (Or.inl ⟨by rfl, ?_⟩) ?_; rotate_left 1; (focus (intro W hW; go_simp; first | done | with_reducible rfl)); try simp only [Act.put, List.setIfInBounds_toArray, List.set_cons_zero, List.set_cons_succ]) | (refine takeW 8 rfl (by decide +kernel) (by decide +kernel) (by decide +kernel) (fun _ _ _ h => h) (Or.inr ⟨by rfl, rfl⟩) ?_; try simp only [Act.put, List.setIfInBounds_toArray, List.set_cons_zero, List.set_cons_succ]) | skip); (first | (refine takeT 9 (v := ?_) rfl (by decide +kernel) (by decide +kernel) (by decide +kernel) (fun _ _ _ h => h) (by decide +kernel) (Or.inl ⟨by rfl, ?_⟩) ?_; rotate_left 1; (focus (intro W hW; have hcW := hW.at; (try dsimp only at hcW); go_simp; first | done | with_reducible rfl)); try simp only [Act.put, List.setIfInBounds_toArray, List.set_cons_zero, List.set_cons_succ]) | (refine takeW 9 (v := ?_) rfl (by decide +kernel) (by decide +kernel) (by decide +kernel) (fun _ _ _ h => h) (Or.inl ⟨by rfl, ?_⟩) ?_; rotate_left 1; (focus (intro W hW; go_simp; first | done | with_reducible rfl)); try simp only [Act.put, List.setIfInBounds_toArray, List.set_cons_zero, List.set_cons_succ]) | (refine takeW 9 rfl (by decide +kernel) (by decide +kernel) (by decide +kernel) (fun _ _ _ h => h) (Or.inr ⟨by rfl, rfl⟩) ?_; try simp only [Act.put, List.setIfInBounds_toArray, List.set_cons_zero, List.set_cons_succ]) | skip); (first | (refine takeT 10 (v := ?_) rfl (by decide +kernel) (by decide +kernel) (by decide +kernel) (fun _ _ _ h => h) (by decide +kernel) (Or.inl ⟨by rfl, ?_⟩) ?_; rotate_left 1; (focus (intro W hW; have hcW := hW.at; (try dsimp only at hcW); go_simp; first | done | with_reducible rfl)); try simp only [Act.put, List.setIfInBounds_toArray, List.set_cons_zero, List.set_cons_succ]) | (refine takeW 10 (v := ?_) rfl (by decide +kernel) (by decide +kernel) (by decide +kernel) (fun _ _ _ h => h) (Or.inl ⟨by rfl, ?_⟩) ?_; rotate_left 1; (focus (intro W hW; go_simp; first | done | with_reducible rfl)); try simp only [Act.put, List.setIfInBounds_toArray, List.set_cons_zero, List.set_cons_succ]) | (refine takeW 10 rfl (by decide +kernel) (by decide +kernel) (by decide +kernel) (fun _ _ _ h => h) (Or.inr ⟨by rfl, rfl⟩) ?_; try simp only [Act.put, List.setIfInBounds_toArray, List.set_cons_zero, List.set_cons_succ]) | skip); (first | (refine takeT 11 (v := ?_) rfl (by decide +kernel) (by decide +kernel) (by decide +kernel) (fun _ _ _ h => h) (by decide +kernel) (Or.inl ⟨by rfl, ?_⟩) ?_; rotate_left 1; (focus (intro W hW; have hcW := hW.at; (try dsimp only at hcW); go_simp; first | done | with_reducible rfl)); try simp only [Act.put, List.setIfInBounds_toArray, List.set_cons_zero, List.set_cons_succ]) | (refine takeW 11 (v := ?_) rfl (by decide +kernel) (by decide +kernel) (by decide +kernel) (fun _ _ _ h => h) (Or.inl ⟨by rfl, ?_⟩) ?_; rotate_left 1; (focus (intro W hW; go_simp; first | done | with_reducible rfl)); try simp only [Act.put, List.setIfInBounds_toArray, List.set_cons_zero, List.set_cons_succ]) | (refine takeW 11 rfl (by decide +kernel) (by decide +kernel) (by decide +kernel) (fun _ _ _ h => h) (Or.inr ⟨by rfl, rfl⟩) ?_; try simp only [Act.put, List.setIfInBounds_toArray, List.set_cons_zero, List.set_cons_succ]) | skip))
          clear d5 d6
          refine stepT 12 rfl (by decide +kernel) (by rfl) ?_
          intro K hK
          go_simp
          refine (KLi.out x0 hb).mono ?_
          rintro e x1' ⟨rfl, bb⟩
          have lz := hb.size
          have lt := LT.out
          refine hK _ _ (.inr (fun a ha => bb.cell (by rcases ha with h | h <;> omega))) ?_
          clear hK K lt lz
          try simp only [Act.put, List.setIfInBounds_toArray, List.set_cons_zero, List.set_cons_succ]
          have HB := Lib.hid (hb.trans (bb.mono hb.size))
          clear hb bb
          ((first | (refine takeT 13 (v := ?_) rfl (by decide +kernel) (by decide +kernel) (by decide +kernel) (fun _ _ _ h => h) (by decide +kernel) (Or.inl ⟨by rfl, ?_⟩) ?_; rotate_left 1; (focus (intro W hW; have hcW := hW.at; (try dsimp only at hcW); go_simp; first | done | with_reducible rfl)); try simp only [Act.put, List.setIfInBounds_toArray, List.set_cons_zero, List.set_cons_succ]) | (refine takeW 13 (v := ?_) rfl (by decide +kernel) (by decide +kernel) (by decide +kernel) (fun _ _ _ h => h) (Or.inl ⟨by rfl, ?_⟩) ?_; rotate_left 1; (focus (intro W hW; go_simp; first | done | with_reducible rfl)); try simp only [Act.put, List.setIfInBounds_toArray, List.set_cons_zero, List.set_cons_succ]) | (refine takeW 13 rfl (by decide +kernel) (by decide +kernel) (by decide +kernel) (fun _ _ _ h => h) (Or.inr ⟨by rfl, rfl⟩) ?_; try simp only [Act.put, List.setIfInBounds_toArray, List.set_cons_zero, List.set_cons_succ]) | skip); (first | (refine takeT 14 (v := ?_) rfl (by decide +kernel) (by decide +kernel) (by decide +kernel) (fun _ _ _ h => h) (by decide +kernel) (Or.inl ⟨by rfl, ?_⟩) ?_; rotate_left 1; (focus (intro W hW; have hcW := hW.at; (try dsimp only at hcW); go_simp; first | done | with_reducible rfl)); try simp only [Act.put, List.setIfInBounds_toArray, List.set_cons_zero, List.set_cons_succ]) | (refine takeW 14 (v := ?_) rfl (by decide +kernel) (by decide +kernel) (by decide +kernel) (fun _ _ _ h => h) (Or.inl ⟨by rfl, ?_⟩) ?_; rotate_left 1; (focus (intro W hW; go_simp; first | done | with_reducible rfl)); try simp only [Act.put, List.setIfInBounds_toArray, List.set_cons_zero, List.set_cons_succ]) | (refine takeW 14 rfl (by decide +kernel) (by decide +kernel) (by decide +kernel) (fun _ _ _ h => h) (Or.inr ⟨by rfl, rfl⟩) ?_; try simp only [Act.put, List.setIfInBounds_toArray, List.set_cons_zero, List.set_cons_succ]) | skip))
          refine doneT (by kernel_rfl) ?_
          go_wp2
          go_roundw
          case rel =>
            have hb5 := HB.out.block _ (block_lt B55.out)
            have hqs := Hqs.out
            subst hqs
            exact ⟨k + 1, d + 1, s2, fs2, FD2, FL2, some ⟨g4, 0, none⟩, (l.drop (d + 1)).length, by omega, by omega, by have := Hle.out; have := Hkd.out; omega, by go_num, hb5.trans B55.out, (R5.out.below HB.out (by decide)).mono fun k hk h => by have h1 := Bb4.out.size; have := hk.1; have : k < x3.heap.size := h.elim (fun h => ((recA _ _ _).ge HD3c.out k h).2) (fun h => ((lineA _ _ _).ge HL3c.out k h).2); omega, Asr.below HD.out HB.out HW5.out.size, Asr.below HL5.out HB.out HW5.out.size, Hdis2.out, fun h => B5.out.2 ((HS2.out _).2 h), Hinv2.out, HW5.out.trans (HB.out.mono HW5.out.size)⟩
          case measure => simp [intOf]; omega
      · have h0 : (l.drop d).length = 0 := by rw [List.length_drop]; omega
        rw [h0] at h5
        obtain ⟨⟨Ag, cg, hb1, _⟩, _, _⟩ := hdv
        have hgl : s.got.length = l.length := by have := hinv.len hd; omega
        rw [hgl] at hb1
        have KO := Tg.offer_none wr (par d) A1 c1
        have H5 := Lib.hid h5
        have H6 := Lib.hid hb1
        have Hbw := Lib.hid hbw
        clear h5 hb1 hbw hrd hln' hdis hn5 hinv hkd
        go_wp2_with (refine wpl_loadB flatSnd rfl (.tmp 5) rfl _ rfl H5.out rfl ?_)
        refine KO.mono ?_
        rintro e x1 ⟨rfl, bb⟩
        have e5 := block_at ((bb.block _ (block_lt H5.out)).trans H5.out) (i := 1) (v := .slice A1 0 c1) rfl
        have e6 := block_at ((bb.block _ (block_lt H6.out)).trans H6.out) (i := 1) (v := .slice Ag l.length cg) rfl
        have Hb1' := Lib.hid (Hbw.out.trans (bb.mono Hbw.out.size))
        clear bb KO
        go_wp2_with fail
        refine (KL.out _ Hb1'.out).mono ?_
        rintro e z ⟨rfl, bb⟩
        have Hz := Lib.hid ((Hb1'.out).trans (bb.mono (Hb1'.out).size))
        clear bb
        go_wp2
        go_ret
        exact ⟨rfl, Hz.out⟩
    · have hki : ¬ (k : Int) < (l.length : Int) + (xs.length : Int) := by omega
      have h0 : (l.drop d).length = 0 := by rw [List.length_drop]; omega
      rw [h0] at h5
      obtain ⟨⟨Ag, cg, hb1, _⟩, _, _⟩ := hdv
      have hgl : s.got.length = l.length := by have := hinv.len hd; omega
      rw [hgl] at hb1
      have e5 := block_at h5 (i := 1) (v := .slice A1 0 c1) rfl
      have e6 := block_at hb1 (i := 1) (v := .slice Ag l.length cg) rfl
      have Hbw := Lib.hid hbw
      clear h5 hb1 hbw hrd hln' hdis hn5 hinv hkd
      go_wp2_with fail
      refine (KL.out _ Hbw.out).mono ?_
      rintro e z ⟨rfl, bb⟩
      have Hz := Lib.hid ((Hbw.out).trans (bb.mono (Hbw.out).size))
      clear bb
      go_wp2
      go_ret
      exact ⟨rfl, Hz.out⟩

end Go.Proofs.YtkfkcpogcobmbaaDoor
