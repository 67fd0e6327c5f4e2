/-
  Helper text: what the reference's host does behind the answer to an In token; no statement is proved here.
-/
import Derived.Test.YtkfkcpogcobmbaaDoorRsp
import Derived.Test.YtkfkcpogcobmbaaDoorDo2
namespace Go.Proofs.YtkfkcpogcobmbaaDoor
open Go Go.RowKit

/-- What the reference's host does behind the answer to an In token. -/
def inW (x : Rw) (t : Tr) (a : Pkt) (o : Bool) : Rw × Nat × List UInt8 :=
  if o = true ∧ (a.pid = 3 ∨ a.pid = 11) then
    if t.max < (a.data.length : Int) then (x, 5, [])
    else if t.iso = true then (x, 1, a.data)
    else ((speakW x ackP).1, if t.tog = (a.pid == 11) then (1, a.data) else (6, []))
  else (x, if o = true ∧ t.iso = false ∧ a.pid = 10 then 2 else if o = true ∧ t.iso = false ∧ a.pid = 14 then 3 else 4, [])
/-- A world and an outcome. -/
def RdoPost (N : Bd) (x : Rw) (r : Nat × List UInt8) (F : Nat → Prop) (w : World) (e : Ending) (w' : World) : Prop :=
  ∃ v' F' A' c', e = .returned (.tuple #[v', .agg #[.int .u8 (r.1 : Int), .slice A' r.2.length c']]) ∧ RdS (fun k => k < N.lo ∧ k < N.hi) w' A' c' r.2 ∧ (rwA N v' x).holds F' w' ∧ Mv F w F' w'
theorem ret_cell2 {P : Program} {w : World} {fn : Func} {p q : Tmp} {ty n ty2 n2 : Nat} (hf : Flat P ty n) (hf2 : Flat P ty2 n2) (h : fn.results = #[.cell p ty, .cell q ty2]) (tmps : Array Value) (g : Nat) (hp : tmps.getD p undef = .pointer (some ⟨g, 0, none⟩)) {t : Nat} {cs : Array Value}
    (hg : w.heap[g]? = some (.cells cs t (0, 0))) (hn : cs.size = n) (g2 : Nat) (hq : tmps.getD q undef = .pointer (some ⟨g2, 0, none⟩)) {t2 : Nat} {cs2 : Array Value} (hg2 : w.heap[g2]? = some (.cells cs2 t2 (0, 0))) (hn2 : cs2.size = n2) :
    (results fn tmps).run P w = .ok (.tuple #[.agg cs, .agg cs2]) w := by
  subst hn; subst hn2
  obtain ⟨d, h1, h3⟩ := hf
  obtain ⟨d2, h4, h5⟩ := hf2
  have hp' : tmps[p]?.getD undef = .pointer (some ⟨g, 0, none⟩) := by simpa using hp
  have hq' : tmps[q]?.getD undef = .pointer (some ⟨g2, 0, none⟩) := by simpa using hq
  simp [results, h, hp', hq', asAddr, run_loadVar_row w g t ty cs (0, 0) _ hg h1 rfl h3, run_loadVar_row w g2 t2 ty2 cs2 (0, 0) _ hg2 h4 rfl h5]
theorem alloc5 (w : World) (o1 o2 o3 o4 o5 : Obj) : (((((w.alloc o1).alloc o2).alloc o3).alloc o4).alloc o5).heap[w.heap.size]? = some o1 ∧ (((((w.alloc o1).alloc o2).alloc o3).alloc o4).alloc o5).heap[w.heap.size + 1]? = some o2 ∧ (((((w.alloc o1).alloc o2).alloc o3).alloc o4).alloc o5).heap[w.heap.size + 1 + 1]? = some o3 ∧
    (((((w.alloc o1).alloc o2).alloc o3).alloc o4).alloc o5).heap[w.heap.size + 1 + 1 + 1]? = some o4 ∧ (((((w.alloc o1).alloc o2).alloc o3).alloc o4).alloc o5).heap[w.heap.size + 1 + 1 + 1 + 1]? = some o5 ∧ (((((w.alloc o1).alloc o2).alloc o3).alloc o4).alloc o5).heap.size = w.heap.size + 1 + 1 + 1 + 1 + 1 ∧ Below w.heap.size w (((((w.alloc o1).alloc o2).alloc o3).alloc o4).alloc o5) := by
  obtain ⟨h1, h2, h3, h4, h5, h6⟩ := alloc4 w o1 o2 o3 o4
  refine ⟨(Below.heap_alloc _ _ _ (by omega)).trans h1, (Below.heap_alloc _ _ _ (by omega)).trans h2, (Below.heap_alloc _ _ _ (by omega)).trans h3, (Below.heap_alloc _ _ _ (by omega)).trans h4, ?_, by simp, h6.alloc (by omega) o5⟩
  have := heap_alloc_new ((((w.alloc o1).alloc o2).alloc o3).alloc o4) o5
  rwa [h5] at this
theorem rdo_end {N : Bd} {w cur z1 z2 : World} {v : Value} {x : Rw} {F0 F : Nat → Prop} {g8 g9 : Nat} {r : Nat} {xs : List UInt8} {A : Option Addr} {c : Nat} (h : (rwA N v x).holds F cur) (hm : Mv F0 w F cur) (hg1 : cur.grownBy z1 (some g8)) (hg2 : z1.grownBy z2 (some g9)) (n8 : ¬ F g8) (n9 : ¬ F g9) (l8 : w.heap.size ≤ g8) (l9 : w.heap.size ≤ g9) (hN : N ≤ w.heap.size)
    (hr : RdS (fun k => k < N.lo ∧ k < N.hi) cur A c xs) :
    RdoPost N x (r, xs) F0 w (.returned (.tuple #[v, .agg #[.int .u8 (r : Int), .slice A xs.length c]])) z2 := by
  have hc : N ≤ cur.heap.size := Nat.le_trans hN hm.size
  exact ⟨v, F, A, c, rfl, (hr.grown hg1 fun k hk => by omega).grown hg2 fun k hk => by omega, Asr.grown (Asr.grown h hg1 n8 (by omega) hc) hg2 n9 (by omega) (Nat.le_trans hc hg1.size), (hm.grown_new hg1 l8).grown_new hg2 l9⟩
theorem rdo_end5 {N : Bd} {w : World} {v : Value} {x : Rw} {F : Nat → Prop} {r : Nat} {xs : List UInt8} {A : Option Addr} {c : Nat} (h : (rwA N v x).holds F w) (hN : N ≤ w.heap.size) (hr : RdS (fun k => k < N.lo ∧ k < N.hi) w A c xs) (o1 o2 o3 o4 o5 : Obj) :
    RdoPost N x (r, xs) F w (.returned (.tuple #[v, .agg #[.int .u8 (r : Int), .slice A xs.length c]])) (((((w.alloc o1).alloc o2).alloc o3).alloc o4).alloc o5) := by
  obtain ⟨_, _, _, _, _, _, hb⟩ := alloc5 w o1 o2 o3 o4 o5
  exact ⟨v, F, A, c, rfl, hr.keep fun k hk => hb.block k (Nat.lt_of_lt_of_le hk.2 hN), Asr.below h hb hN, Mv.of_below F hb⟩

set_option maxHeartbeats 6400000 in
set_option maxRecDepth 100000 in
theorem rin_any (w : World) (N : Bd) (v : Value) (x : Rw) (F : Nat → Prop) (h : (rwA N v x).holds F w) (t : Tr) (At : Option Addr) (ct : Nat) (a : Pkt) (A : Option Addr) (c : Nat) (ok : Bool) (hr : RdS (fun k => k < N.lo ∧ k < N.hi) w A c a.data) (hls : x.sent.length ≤ 999999) (hlh : x.heard.length ≤ 1000000) (hans : ∀ b ∈ x.ans, b.Ok) (hN : N ≤ w.heap.size) :
    Calls Tryd.prog 44 #[v, trV t At ct, pkV a A c, .bool ok] w (RdoPost N (inW x t a ok).1 (inW x t a ok).2 F w) := by
  have hF0 := (rwA N v x).ge h
  have h' := h
  obtain ⟨Aa, ca, Af, cf, A2, c2, A3, c3, rfl, _⟩ := h'
  obtain ⟨g0, g1, g2, g3, g4, g5, g6⟩ := alloc5 w (.cells #[.slice Aa x.ans.length ca, .slice Af x.flt.length cf, .slice A2 x.heard.length c2, .slice A3 x.sent.length c3] 67) (trB t At ct) (pkB a A c) (.cells #[.slice none 0 0, .slice none 0 0, .slice none 0 0, .slice none 0 0] 67) (.cells #[.int .u8 0, .slice none 0 0] 56)
  have HN := Lib.hid hN
  have H0 := Lib.hid (Asr.below h g6 hN)
  have HR0 := Lib.hid (hr.keep fun k hk => g6.block k (Nat.lt_of_lt_of_le hk.2 hN))
  have M0 := Lib.hid (Mv.of_below F g6)
  have nF : ∀ k, w.heap.size ≤ k → ¬ F k := fun k hk hf => by have := (hF0 k hf).2; omega
  have NF := Lib.hid nF
  have HW := Lib.hid g0
  have HT := Lib.hid g1
  have HP := Lib.hid g2
  have HZ := Lib.hid g3
  have HO := Lib.hid g4
  obtain ⟨_, _, _, c3', c4', c5', _⟩ := tr_cells g1
  have p0 := block_at g2 (i := 0) (v := .int .u8 (a.pid : Int)) rfl
  have p9 := block_at g2 (i := 9) (v := .slice A a.data.length c) rfl
  have KA := Lib.hid fun (X : World) (v : Value) (F : Nat → Prop) (hX : (rwA N v x).holds F X) (hNX : N ≤ X.heap.size) => rsp_any X N v x F hX ackP ackP_ok none 0 (RdS.nil _) hls hlh hans hNX
  obtain ⟨R, hR⟩ : ∃ R, inW x t a ok = R := ⟨_, rfl⟩
  rw [hR]
  unfold inW at hR
  have hSW := Lib.hid (rfl : speakW x ackP = speakW x ackP)
  obtain ⟨⟨x2, a2, o2⟩, hr2⟩ : ∃ r, speakW x ackP = r := ⟨_, rfl⟩
  rw [hr2] at KA hR
  obtain ⟨b3, hb3⟩ : ∃ b, (a.pid == 3) = b := ⟨_, rfl⟩
  obtain ⟨b11, hb11⟩ : ∃ b, (a.pid == 11) = b := ⟨_, rfl⟩
  obtain ⟨b10, hb10⟩ : ∃ b, (a.pid == 10) = b := ⟨_, rfl⟩
  obtain ⟨b14, hb14⟩ : ∃ b, (a.pid == 14) = b := ⟨_, rfl⟩
  have i3 : ((a.pid : Int) != 3) = !b3 := by rw [bne, show ((a.pid : Int) == 3) = (a.pid == 3) from castEq a.pid 3, hb3]
  have i11 : ((a.pid : Int) != 11) = !b11 := by rw [bne, show ((a.pid : Int) == 11) = (a.pid == 11) from castEq a.pid 11, hb11]
  have e10 : ((a.pid : Int) == 10) = b10 := (castEq a.pid 10).trans hb10
  have e14 : ((a.pid : Int) == 14) = b14 := (castEq a.pid 14).trans hb14
  have e11 : ((a.pid : Int) == 11) = b11 := (castEq a.pid 11).trans hb11
  have hR' : (if ok = true ∧ (b3 = true ∨ b11 = true) then if t.max < (a.data.length : Int) then (x, 5, []) else if t.iso = true then (x, 1, a.data) else (x2, if t.tog = b11 then (1, a.data) else (6, [])) else (x, if ok = true ∧ t.iso = false ∧ b10 = true then 2 else if ok = true ∧ t.iso = false ∧ b14 = true then 3 else 4, [])) = R := by
    rw [← hR, hb11, ← hb3, ← hb10, ← hb14, ← hb11]
    simp only [beq_iff_eq]
  obtain ⟨tg, htg⟩ : ∃ b, t.tog = b := ⟨_, rfl⟩
  obtain ⟨is, his⟩ : ∃ b, t.iso = b := ⟨_, rfl⟩
  obtain ⟨mx, hmx⟩ : ∃ b, t.max = b := ⟨_, rfl⟩
  obtain ⟨n, hn⟩ : ∃ n, a.data.length = n := ⟨_, rfl⟩
  rw [htg] at c3'
  rw [his] at c4'
  rw [hmx] at c5'
  rw [htg, his, hmx, hn] at hR'
  have HR := Lib.hid hR'
  have Htg := Lib.hid htg
  have Hn := Lib.hid hn
  have Hh := Lib.hid h
  have Hr := Lib.hid hr
  have hxx : b3 = true → b11 = false := by rw [← hb3, ← hb11]; intro h; have := eq_of_beq h; rw [this]; rfl
  have HX := Lib.hid hxx
  clear hxx
  clear g0 g1 g2 g3 g4 g5 g6 hN h hr hF0 hR hls hlh hans nF hb3 hb11 hb10 hb14 hr2 hSW hR' htg his hmx
  rw [hn] at p9
  clear hn
  cases ok
  · obtain rfl : (x, 4, []) = R := by have := HR.out; simp at this; exact this
    clear HR
    go_enter Tryd.func44, Tryd.ntmps44
    go_wp2
    refine bodyPost_ret (ret_cell2 flatRw flatOut rfl _ (w.heap.size + 1 + 1 + 1) rfl (alloc5 w _ _ _ _ _).2.2.2.1 rfl (w.heap.size + 1 + 1 + 1 + 1) rfl (alloc5 w _ _ _ _ _).2.2.2.2.1 rfl) rfl ?_
    exact rdo_end5 (r := 4) Hh.out HN.out (RdS.nil _) _ _ _ _ _
  by_cases hp : b3 = false ∧ b11 = false
  · obtain ⟨rfl, rfl⟩ := hp
    cases is
    · cases b10
      · cases b14
        · obtain rfl : (x, 4, []) = R := by have := HR.out; simp at this; exact this
          clear HR
          go_enter Tryd.func44, Tryd.ntmps44
          go_wp2
          refine bodyPost_ret (ret_cell2 flatRw flatOut rfl _ (w.heap.size + 1 + 1 + 1) rfl (alloc5 w _ _ _ _ _).2.2.2.1 rfl (w.heap.size + 1 + 1 + 1 + 1) rfl (alloc5 w _ _ _ _ _).2.2.2.2.1 rfl) rfl ?_
          exact rdo_end5 (r := 4) Hh.out HN.out (RdS.nil _) _ _ _ _ _
        · obtain rfl : (x, 3, []) = R := by have := HR.out; simp at this; exact this
          clear HR
          go_enter Tryd.func44, Tryd.ntmps44
          go_wp2
          refine bodyPost_ret (ret_cell2 flatRw flatOut rfl _ (w.heap.size + 1 + 1 + 1) rfl (alloc5 w _ _ _ _ _).2.2.2.1 rfl (w.heap.size + 1 + 1 + 1 + 1) rfl (alloc5 w _ _ _ _ _).2.2.2.2.1 rfl) rfl ?_
          exact rdo_end5 (r := 3) Hh.out HN.out (RdS.nil _) _ _ _ _ _
      · obtain rfl : (x, 2, []) = R := by have := HR.out; simp at this; exact this
        clear HR
        go_enter Tryd.func44, Tryd.ntmps44
        go_wp2
        refine bodyPost_ret (ret_cell2 flatRw flatOut rfl _ (w.heap.size + 1 + 1 + 1) rfl (alloc5 w _ _ _ _ _).2.2.2.1 rfl (w.heap.size + 1 + 1 + 1 + 1) rfl (alloc5 w _ _ _ _ _).2.2.2.2.1 rfl) rfl ?_
        exact rdo_end5 (r := 2) Hh.out HN.out (RdS.nil _) _ _ _ _ _
    · obtain rfl : (x, 4, []) = R := by have := HR.out; simp at this; exact this
      clear HR
      go_enter Tryd.func44, Tryd.ntmps44
      go_wp2
      refine bodyPost_ret (ret_cell2 flatRw flatOut rfl _ (w.heap.size + 1 + 1 + 1) rfl (alloc5 w _ _ _ _ _).2.2.2.1 rfl (w.heap.size + 1 + 1 + 1 + 1) rfl (alloc5 w _ _ _ _ _).2.2.2.2.1 rfl) rfl ?_
      exact rdo_end5 (r := 4) Hh.out HN.out (RdS.nil _) _ _ _ _ _
  have hq : (b3 = true ∨ b11 = true) := by cases b3 <;> cases b11 <;> simp at hp ⊢
  have HQ := Lib.hid hq
  have i21 : ((!b3) && (!b11)) = false := by cases b3 <;> cases b11 <;> simp at hp ⊢
  clear hp hq
  by_cases hm : mx < (n : Int)
  · skip
    cases b3
    · cases b11
      · simp at i21
      · obtain rfl : (x, 5, []) = R := by have := HR.out; rw [if_pos ⟨rfl, HQ.out⟩, if_pos hm] at this; exact this
        clear HR
        go_enter Tryd.func44, Tryd.ntmps44
        go_wp2
        refine bodyPost_ret (ret_cell2 flatRw flatOut rfl _ (w.heap.size + 1 + 1 + 1) rfl (alloc5 w _ _ _ _ _).2.2.2.1 rfl (w.heap.size + 1 + 1 + 1 + 1) rfl (alloc5 w _ _ _ _ _).2.2.2.2.1 rfl) rfl ?_
        exact rdo_end5 (r := 5) Hh.out HN.out (RdS.nil _) _ _ _ _ _
    · have hx1 := HX.out rfl
      subst hx1
      obtain rfl : (x, 5, []) = R := by have := HR.out; rw [if_pos ⟨rfl, HQ.out⟩, if_pos hm] at this; exact this
      clear HR
      go_enter Tryd.func44, Tryd.ntmps44
      go_wp2
      refine bodyPost_ret (ret_cell2 flatRw flatOut rfl _ (w.heap.size + 1 + 1 + 1) rfl (alloc5 w _ _ _ _ _).2.2.2.1 rfl (w.heap.size + 1 + 1 + 1 + 1) rfl (alloc5 w _ _ _ _ _).2.2.2.2.1 rfl) rfl ?_
      exact rdo_end5 (r := 5) Hh.out HN.out (RdS.nil _) _ _ _ _ _
  cases is
  · by_cases htb : tg = b11
    · obtain rfl : (x2, 1, a.data) = R := by have := HR.out; rw [if_pos ⟨rfl, HQ.out⟩, if_neg hm, if_neg (by simp), if_pos htb] at this; exact this
      clear HR
      have htb2 := htb.symm
      subst htb2
      clear htb
      have htg := Htg.out
      cases b3
      · cases b11
        · simp at i21
        · go_enter Tryd.func44, Tryd.ntmps44
          go_wp2_with fail
          refine (KA.out _ _ F H0.out (Nat.le_trans HN.out M0.out.size)).mono ?_
          rintro e y2 ⟨v2, F2, A', c', rfl, _, h2, hm2⟩
          obtain ⟨Ba, da, Bf, df, B2, d2', B3, d3', rfl, _⟩ := id h2
          have X1 := hm2.box ⟨HW.out, NF.out _ (by omega)⟩
          have X2 := hm2.box ⟨HT.out, NF.out _ (by omega)⟩
          have X3 := hm2.box ⟨HP.out, NF.out _ (by omega)⟩
          have X4 := hm2.box ⟨HZ.out, NF.out _ (by omega)⟩
          have X5 := hm2.box ⟨HO.out, NF.out _ (by omega)⟩
          have M2 := Lib.hid (M0.out.trans hm2)
          have H2 := Lib.hid h2
          have hFN := (rwA N _ x).ge H0.out
          have R2 := Lib.hid (HR0.out.keep (w' := y2) fun k hk => hm2.keep k (Nat.lt_of_lt_of_le hk.2 (Nat.le_trans HN.out M0.out.size)) (fun hf => by have := (hFN k hf).1; omega))
          have BW := Lib.hid X1
          have BT := Lib.hid X2
          have BP := Lib.hid X3
          have BZ := Lib.hid X4
          have BO := Lib.hid X5
          clear X1 X2 X3 X4 X5 h2 hm2 hFN c3' c4' c5' p0 p9 HW HT HP HZ HO H0 HR0 M0 KA Hh Hr
          go_wp2_with (refine wpl_storeB flatRw rfl (.tmp 4) (.tmp 68) rfl _ rfl _ rfl BW.out.1 rfl rfl rfl ?_; intro y3 k3 hg3 hs3; have HW3 := Lib.hid k3; have HT3 := Lib.hid (grown_block hg3 BT.out.1 (fun e => by injection e; omega)); have HP3 := Lib.hid (grown_block hg3 BP.out.1 (fun e => by injection e; omega)); have HZ3 := Lib.hid (grown_block hg3 BZ.out.1 (fun e => by injection e; omega)); have HO3 := Lib.hid (grown_block hg3 BO.out.1 (fun e => by injection e; omega)); have H3 := Lib.hid (Asr.grown H2.out hg3 BW.out.2 HN.out (Nat.le_trans HN.out M2.out.size)); have M3 := Lib.hid (M2.out.grown_new hg3 (Nat.le_refl _)); have R3 := Lib.hid (R2.out.grown hg3 (fun k hk => by have := HN.out; omega)); have c3' := (tr_cells HT3.out).2.2.2.1; rw [htg] at c3'; have p0 := block_at HP3.out (i := 0) (v := .int .u8 (a.pid : Int)) rfl; clear k3 hg3 hs3)
          refine startTP (S := fun a => a.block = w.heap.size ∨ a.block = w.heap.size + 1 + 1) (T := []) (fun X => X.heap[w.heap.size]? = some (.cells #[.slice Ba x2.ans.length da, .slice Bf x2.flt.length df, .slice B2 x2.heard.length d2', .slice B3 x2.sent.length d3'] 67) ∧ X.heap[w.heap.size + 1 + 1]? = some (pkB a A c) ∧ X.heap[w.heap.size + 1 + 1 + 1]? = some (.cells #[.slice none 0 0, .slice none 0 0, .slice none 0 0, .slice none 0 0] 67) ∧ X.heap[w.heap.size + 1 + 1 + 1 + 1]? = some (.cells #[.int .u8 0, .slice none 0 0] 56) ∧ (rwA N (.agg #[.slice Ba x2.ans.length da, .slice Bf x2.flt.length df, .slice B2 x2.heard.length d2', .slice B3 x2.sent.length d3']) x2).holds F2 X ∧ RdS (fun k => k < N.lo ∧ k < N.hi) X A c a.data ∧ Mv F w F2 X) 6 (by kernel_rfl) rfl (l := #[false, false, false, false, false, false]) rfl ⟨HW3.out, HP3.out, HZ3.out, HO3.out, Asr.drew H3.out, R3.out.drew, M3.out.drew⟩ ?_
          rintro x0 ⟨q1, q2, q3, q4, q5, q6, q7⟩
          have d1 := range_of q1
          have d2 := block_at q2 (i := 9) (v := .slice A a.data.length c) rfl
          refine takeT 0 (v := (.agg #[.slice Ba x2.ans.length da, .slice Bf x2.flt.length df, .slice B2 x2.heard.length d2', .slice B3 x2.sent.length d3'])) rfl (by decide +kernel) (by decide +kernel) (by decide +kernel) (fun _ _ _ h => h) (by decide +kernel) (yieldsIf_load_mid (by rfl) _ (.tmp 4) rfl w.heap.size 0 rfl [.slice Ba x2.ans.length da, .slice Bf x2.flt.length df, .slice B2 x2.heard.length d2', .slice B3 x2.sent.length d3'] _ (fun W hW => range_sm hW (fun j => .inl rfl) d1) Tryd.underlying67 rfl (by kernel_rfl)) ?_
          try simp only [Act.put, List.setIfInBounds_toArray, List.set_cons_zero, List.set_cons_succ]
          clear d1
          ((first | (refine takeT 1 (v := ?_) rfl (by decide +kernel) (by decide +kernel) (by decide +kernel) (fun _ _ _ h => h) (by decide +kernel) (Or.inl ⟨by rfl, ?_⟩) ?_; rotate_left 1; (focus (intro W hW; have hcW := hW.at; (try dsimp only at hcW); go_simp; first | done | with_reducible rfl)); try simp only [Act.put, List.setIfInBounds_toArray, List.set_cons_zero, List.set_cons_succ]) | (refine takeW 1 (v := ?_) rfl (by decide +kernel) (by decide +kernel) (by decide +kernel) (fun _ _ _ h => h) (Or.inl ⟨by rfl, ?_⟩) ?_; rotate_left 1; (focus (intro W hW; go_simp; first | done | with_reducible rfl)); try simp only [Act.put, List.setIfInBounds_toArray, List.set_cons_zero, List.set_cons_succ]) | (refine takeW 1 rfl (by decide +kernel) (by decide +kernel) (by decide +kernel) (fun _ _ _ h => h) (Or.inr ⟨by rfl, rfl⟩) ?_; try simp only [Act.put, List.setIfInBounds_toArray, List.set_cons_zero, List.set_cons_succ]) | skip); (first | (refine takeT 2 (v := ?_) rfl (by decide +kernel) (by decide +kernel) (by decide +kernel) (fun _ _ _ h => h) (by decide +kernel) (Or.inl ⟨by rfl, ?_⟩) ?_; rotate_left 1; (focus (intro W hW; have hcW := hW.at; (try dsimp only at hcW); go_simp; first | done | with_reducible rfl)); try simp only [Act.put, List.setIfInBounds_toArray, List.set_cons_zero, List.set_cons_succ]) | (refine takeW 2 (v := ?_) rfl (by decide +kernel) (by decide +kernel) (by decide +kernel) (fun _ _ _ h => h) (Or.inl ⟨by rfl, ?_⟩) ?_; rotate_left 1; (focus (intro W hW; go_simp; first | done | with_reducible rfl)); try simp only [Act.put, List.setIfInBounds_toArray, List.set_cons_zero, List.set_cons_succ]) | (refine takeW 2 rfl (by decide +kernel) (by decide +kernel) (by decide +kernel) (fun _ _ _ h => h) (Or.inr ⟨by rfl, rfl⟩) ?_; try simp only [Act.put, List.setIfInBounds_toArray, List.set_cons_zero, List.set_cons_succ]) | skip); (first | (refine takeT 3 (v := ?_) rfl (by decide +kernel) (by decide +kernel) (by decide +kernel) (fun _ _ _ h => h) (by decide +kernel) (Or.inl ⟨by rfl, ?_⟩) ?_; rotate_left 1; (focus (intro W hW; have hcW := hW.at; (try dsimp only at hcW); go_simp; first | done | with_reducible rfl)); try simp only [Act.put, List.setIfInBounds_toArray, List.set_cons_zero, List.set_cons_succ]) | (refine takeW 3 (v := ?_) rfl (by decide +kernel) (by decide +kernel) (by decide +kernel) (fun _ _ _ h => h) (Or.inl ⟨by rfl, ?_⟩) ?_; rotate_left 1; (focus (intro W hW; go_simp; first | done | with_reducible rfl)); try simp only [Act.put, List.setIfInBounds_toArray, List.set_cons_zero, List.set_cons_succ]) | (refine takeW 3 rfl (by decide +kernel) (by decide +kernel) (by decide +kernel) (fun _ _ _ h => h) (Or.inr ⟨by rfl, rfl⟩) ?_; try simp only [Act.put, List.setIfInBounds_toArray, List.set_cons_zero, List.set_cons_succ]) | skip))
          clear d2
          refine stepT 4 rfl (by decide +kernel) (by rfl) ?_
          intro K hK
          refine wp_storeB flatRw (.tmp 8) (.tmp 79) rfl (w.heap.size + 1 + 1 + 1) rfl _ rfl q3 rfl rfl rfl ?_
          intro z1 k1 hg1 hs1
          refine hK _ _ (.inr (sm_grown hg1 hs1 fun a ha => by rcases ha with h | h <;> omega)) ?_
          clear hK K
          try simp only [Act.put, List.setIfInBounds_toArray, List.set_cons_zero, List.set_cons_succ]
          have q4z := grown_block hg1 q4 (fun e => by injection e; omega)
          refine stepT 5 rfl (by decide +kernel) (by rfl) ?_
          intro K hK
          refine wp_storeB flatOut (.tmp 9) (.tmp 82) rfl (w.heap.size + 1 + 1 + 1 + 1) rfl _ rfl q4z rfl rfl rfl ?_
          intro z2 k2 hg2 hs2
          refine hK _ _ (.inr (sm_grown hg2 hs2 fun a ha => by rcases ha with h | h <;> omega)) ?_
          clear hK K
          try simp only [Act.put, List.setIfInBounds_toArray, List.set_cons_zero, List.set_cons_succ]
          refine doneT (by kernel_rfl) ?_
          have Q := Lib.hid (show _ ∧ _ ∧ _ ∧ _ ∧ _ from ⟨q5, q6, q7, hg1, hg2⟩)
          have K1 := Lib.hid (grown_block hg2 k1 (fun e => by injection e; omega))
          have K2 := Lib.hid k2
          clear q1 q2 q3 q4 q5 q6 q7 q4z hg1 hg2 k1 k2 hs1 hs2
          go_wp2
          refine bodyPost_ret (ret_cell2 flatRw flatOut rfl _ (w.heap.size + 1 + 1 + 1) rfl K1.out rfl (w.heap.size + 1 + 1 + 1 + 1) rfl K2.out rfl) rfl ?_
          exact rdo_end (r := 1) Q.out.1 Q.out.2.2.1 Q.out.2.2.2.1 Q.out.2.2.2.2 BZ.out.2 BO.out.2 (by omega) (by omega) HN.out Q.out.2.1
      · have hx1 := HX.out rfl
        subst hx1
        go_enter Tryd.func44, Tryd.ntmps44
        go_wp2_with fail
        refine (KA.out _ _ F H0.out (Nat.le_trans HN.out M0.out.size)).mono ?_
        rintro e y2 ⟨v2, F2, A', c', rfl, _, h2, hm2⟩
        obtain ⟨Ba, da, Bf, df, B2, d2', B3, d3', rfl, _⟩ := id h2
        have X1 := hm2.box ⟨HW.out, NF.out _ (by omega)⟩
        have X2 := hm2.box ⟨HT.out, NF.out _ (by omega)⟩
        have X3 := hm2.box ⟨HP.out, NF.out _ (by omega)⟩
        have X4 := hm2.box ⟨HZ.out, NF.out _ (by omega)⟩
        have X5 := hm2.box ⟨HO.out, NF.out _ (by omega)⟩
        have M2 := Lib.hid (M0.out.trans hm2)
        have H2 := Lib.hid h2
        have hFN := (rwA N _ x).ge H0.out
        have R2 := Lib.hid (HR0.out.keep (w' := y2) fun k hk => hm2.keep k (Nat.lt_of_lt_of_le hk.2 (Nat.le_trans HN.out M0.out.size)) (fun hf => by have := (hFN k hf).1; omega))
        have BW := Lib.hid X1
        have BT := Lib.hid X2
        have BP := Lib.hid X3
        have BZ := Lib.hid X4
        have BO := Lib.hid X5
        clear X1 X2 X3 X4 X5 h2 hm2 hFN c3' c4' c5' p0 p9 HW HT HP HZ HO H0 HR0 M0 KA Hh Hr
        go_wp2_with (refine wpl_storeB flatRw rfl (.tmp 4) (.tmp 68) rfl _ rfl _ rfl BW.out.1 rfl rfl rfl ?_; intro y3 k3 hg3 hs3; have HW3 := Lib.hid k3; have HT3 := Lib.hid (grown_block hg3 BT.out.1 (fun e => by injection e; omega)); have HP3 := Lib.hid (grown_block hg3 BP.out.1 (fun e => by injection e; omega)); have HZ3 := Lib.hid (grown_block hg3 BZ.out.1 (fun e => by injection e; omega)); have HO3 := Lib.hid (grown_block hg3 BO.out.1 (fun e => by injection e; omega)); have H3 := Lib.hid (Asr.grown H2.out hg3 BW.out.2 HN.out (Nat.le_trans HN.out M2.out.size)); have M3 := Lib.hid (M2.out.grown_new hg3 (Nat.le_refl _)); have R3 := Lib.hid (R2.out.grown hg3 (fun k hk => by have := HN.out; omega)); have c3' := (tr_cells HT3.out).2.2.2.1; rw [htg] at c3'; have p0 := block_at HP3.out (i := 0) (v := .int .u8 (a.pid : Int)) rfl; clear k3 hg3 hs3)
        refine startTP (S := fun a => a.block = w.heap.size ∨ a.block = w.heap.size + 1 + 1) (T := []) (fun X => X.heap[w.heap.size]? = some (.cells #[.slice Ba x2.ans.length da, .slice Bf x2.flt.length df, .slice B2 x2.heard.length d2', .slice B3 x2.sent.length d3'] 67) ∧ X.heap[w.heap.size + 1 + 1]? = some (pkB a A c) ∧ X.heap[w.heap.size + 1 + 1 + 1]? = some (.cells #[.slice none 0 0, .slice none 0 0, .slice none 0 0, .slice none 0 0] 67) ∧ X.heap[w.heap.size + 1 + 1 + 1 + 1]? = some (.cells #[.int .u8 0, .slice none 0 0] 56) ∧ (rwA N (.agg #[.slice Ba x2.ans.length da, .slice Bf x2.flt.length df, .slice B2 x2.heard.length d2', .slice B3 x2.sent.length d3']) x2).holds F2 X ∧ RdS (fun k => k < N.lo ∧ k < N.hi) X A c a.data ∧ Mv F w F2 X) 6 (by kernel_rfl) rfl (l := #[false, false, false, false, false, false]) rfl ⟨HW3.out, HP3.out, HZ3.out, HO3.out, Asr.drew H3.out, R3.out.drew, M3.out.drew⟩ ?_
        rintro x0 ⟨q1, q2, q3, q4, q5, q6, q7⟩
        have d1 := range_of q1
        have d2 := block_at q2 (i := 9) (v := .slice A a.data.length c) rfl
        refine takeT 0 (v := (.agg #[.slice Ba x2.ans.length da, .slice Bf x2.flt.length df, .slice B2 x2.heard.length d2', .slice B3 x2.sent.length d3'])) rfl (by decide +kernel) (by decide +kernel) (by decide +kernel) (fun _ _ _ h => h) (by decide +kernel) (yieldsIf_load_mid (by rfl) _ (.tmp 4) rfl w.heap.size 0 rfl [.slice Ba x2.ans.length da, .slice Bf x2.flt.length df, .slice B2 x2.heard.length d2', .slice B3 x2.sent.length d3'] _ (fun W hW => range_sm hW (fun j => .inl rfl) d1) Tryd.underlying67 rfl (by kernel_rfl)) ?_
        try simp only [Act.put, List.setIfInBounds_toArray, List.set_cons_zero, List.set_cons_succ]
        clear d1
        ((first | (refine takeT 1 (v := ?_) rfl (by decide +kernel) (by decide +kernel) (by decide +kernel) (fun _ _ _ h => h) (by decide +kernel) (Or.inl ⟨by rfl, ?_⟩) ?_; rotate_left 1; (focus (intro W hW; have hcW := hW.at; (try dsimp only at hcW); go_simp; first | done | with_reducible rfl)); try simp only [Act.put, List.setIfInBounds_toArray, List.set_cons_zero, List.set_cons_succ]) | (refine takeW 1 (v := ?_) rfl (by decide +kernel) (by decide +kernel) (by decide +kernel) (fun _ _ _ h => h) (Or.inl ⟨by rfl, ?_⟩) ?_; rotate_left 1; (focus (intro W hW; go_simp; first | done | with_reducible rfl)); try simp only [Act.put, List.setIfInBounds_toArray, List.set_cons_zero, List.set_cons_succ]) | (refine takeW 1 rfl (by decide +kernel) (by decide +kernel) (by decide +kernel) (fun _ _ _ h => h) (Or.inr ⟨by rfl, rfl⟩) ?_; try simp only [Act.put, List.setIfInBounds_toArray, List.set_cons_zero, List.set_cons_succ]) | skip); (first | (refine takeT 2 (v := ?_) rfl (by decide +kernel) (by decide +kernel) (by decide +kernel) (fun _ _ _ h => h) (by decide +kernel) (Or.inl ⟨by rfl, ?_⟩) ?_; rotate_left 1; (focus (intro W hW; have hcW := hW.at; (try dsimp only at hcW); go_simp; first | done | with_reducible rfl)); try simp only [Act.put, List.setIfInBounds_toArray, List.set_cons_zero, List.set_cons_succ]) | (refine takeW 2 (v := ?_) rfl (by decide +kernel) (by decide +kernel) (by decide +kernel) (fun _ _ _ h => h) (Or.inl ⟨by rfl, ?_⟩) ?_; rotate_left 1; (focus (intro W hW; go_simp; first | done | with_reducible rfl)); try simp only [Act.put, List.setIfInBounds_toArray, List.set_cons_zero, List.set_cons_succ]) | (refine takeW 2 rfl (by decide +kernel) (by decide +kernel) (by decide +kernel) (fun _ _ _ h => h) (Or.inr ⟨by rfl, rfl⟩) ?_; try simp only [Act.put, List.setIfInBounds_toArray, List.set_cons_zero, List.set_cons_succ]) | skip); (first | (refine takeT 3 (v := ?_) rfl (by decide +kernel) (by decide +kernel) (by decide +kernel) (fun _ _ _ h => h) (by decide +kernel) (Or.inl ⟨by rfl, ?_⟩) ?_; rotate_left 1; (focus (intro W hW; have hcW := hW.at; (try dsimp only at hcW); go_simp; first | done | with_reducible rfl)); try simp only [Act.put, List.setIfInBounds_toArray, List.set_cons_zero, List.set_cons_succ]) | (refine takeW 3 (v := ?_) rfl (by decide +kernel) (by decide +kernel) (by decide +kernel) (fun _ _ _ h => h) (Or.inl ⟨by rfl, ?_⟩) ?_; rotate_left 1; (focus (intro W hW; go_simp; first | done | with_reducible rfl)); try simp only [Act.put, List.setIfInBounds_toArray, List.set_cons_zero, List.set_cons_succ]) | (refine takeW 3 rfl (by decide +kernel) (by decide +kernel) (by decide +kernel) (fun _ _ _ h => h) (Or.inr ⟨by rfl, rfl⟩) ?_; try simp only [Act.put, List.setIfInBounds_toArray, List.set_cons_zero, List.set_cons_succ]) | skip))
        clear d2
        refine stepT 4 rfl (by decide +kernel) (by rfl) ?_
        intro K hK
        refine wp_storeB flatRw (.tmp 8) (.tmp 79) rfl (w.heap.size + 1 + 1 + 1) rfl _ rfl q3 rfl rfl rfl ?_
        intro z1 k1 hg1 hs1
        refine hK _ _ (.inr (sm_grown hg1 hs1 fun a ha => by rcases ha with h | h <;> omega)) ?_
        clear hK K
        try simp only [Act.put, List.setIfInBounds_toArray, List.set_cons_zero, List.set_cons_succ]
        have q4z := grown_block hg1 q4 (fun e => by injection e; omega)
        refine stepT 5 rfl (by decide +kernel) (by rfl) ?_
        intro K hK
        refine wp_storeB flatOut (.tmp 9) (.tmp 82) rfl (w.heap.size + 1 + 1 + 1 + 1) rfl _ rfl q4z rfl rfl rfl ?_
        intro z2 k2 hg2 hs2
        refine hK _ _ (.inr (sm_grown hg2 hs2 fun a ha => by rcases ha with h | h <;> omega)) ?_
        clear hK K
        try simp only [Act.put, List.setIfInBounds_toArray, List.set_cons_zero, List.set_cons_succ]
        refine doneT (by kernel_rfl) ?_
        have Q := Lib.hid (show _ ∧ _ ∧ _ ∧ _ ∧ _ from ⟨q5, q6, q7, hg1, hg2⟩)
        have K1 := Lib.hid (grown_block hg2 k1 (fun e => by injection e; omega))
        have K2 := Lib.hid k2
        clear q1 q2 q3 q4 q5 q6 q7 q4z hg1 hg2 k1 k2 hs1 hs2
        go_wp2
        refine bodyPost_ret (ret_cell2 flatRw flatOut rfl _ (w.heap.size + 1 + 1 + 1) rfl K1.out rfl (w.heap.size + 1 + 1 + 1 + 1) rfl K2.out rfl) rfl ?_
        exact rdo_end (r := 1) Q.out.1 Q.out.2.2.1 Q.out.2.2.2.1 Q.out.2.2.2.2 BZ.out.2 BO.out.2 (by omega) (by omega) HN.out Q.out.2.1
    · obtain rfl : (x2, 6, []) = R := by have := HR.out; rw [if_pos ⟨rfl, HQ.out⟩, if_neg hm, if_neg (by simp), if_neg htb] at this; exact this
      clear HR
      have htg := Htg.out
      cases b3
      · cases b11
        · simp at i21
        · obtain rfl : tg = _ := Bool.eq_not.2 htb
          simp only [Bool.not_true, Bool.not_false] at *
          go_enter Tryd.func44, Tryd.ntmps44
          go_wp2_with fail
          refine (KA.out _ _ F H0.out (Nat.le_trans HN.out M0.out.size)).mono ?_
          rintro e y2 ⟨v2, F2, A', c', rfl, _, h2, hm2⟩
          obtain ⟨Ba, da, Bf, df, B2, d2', B3, d3', rfl, _⟩ := id h2
          have X1 := hm2.box ⟨HW.out, NF.out _ (by omega)⟩
          have X2 := hm2.box ⟨HT.out, NF.out _ (by omega)⟩
          have X3 := hm2.box ⟨HP.out, NF.out _ (by omega)⟩
          have X4 := hm2.box ⟨HZ.out, NF.out _ (by omega)⟩
          have X5 := hm2.box ⟨HO.out, NF.out _ (by omega)⟩
          have M2 := Lib.hid (M0.out.trans hm2)
          have H2 := Lib.hid h2
          have hFN := (rwA N _ x).ge H0.out
          have R2 := Lib.hid (HR0.out.keep (w' := y2) fun k hk => hm2.keep k (Nat.lt_of_lt_of_le hk.2 (Nat.le_trans HN.out M0.out.size)) (fun hf => by have := (hFN k hf).1; omega))
          have BW := Lib.hid X1
          have BT := Lib.hid X2
          have BP := Lib.hid X3
          have BZ := Lib.hid X4
          have BO := Lib.hid X5
          clear X1 X2 X3 X4 X5 h2 hm2 hFN c3' c4' c5' p0 p9 HW HT HP HZ HO H0 HR0 M0 KA Hh Hr
          go_wp2_with (first | (refine wpl_storeB flatRw rfl (.tmp 4) (.tmp 68) rfl _ rfl _ rfl BW.out.1 rfl rfl rfl ?_; intro y3 k3 hg3 hs3; have HW3 := Lib.hid k3; have HT3 := Lib.hid (grown_block hg3 BT.out.1 (fun e => by injection e; omega)); have HP3 := Lib.hid (grown_block hg3 BP.out.1 (fun e => by injection e; omega)); have HZ3 := Lib.hid (grown_block hg3 BZ.out.1 (fun e => by injection e; omega)); have HO3 := Lib.hid (grown_block hg3 BO.out.1 (fun e => by injection e; omega)); have H3 := Lib.hid (Asr.grown H2.out hg3 BW.out.2 HN.out (Nat.le_trans HN.out M2.out.size)); have M3 := Lib.hid (M2.out.grown_new hg3 (Nat.le_refl _)); have R3 := Lib.hid (R2.out.grown hg3 (fun k hk => by have := HN.out; omega)); have c3' := (tr_cells HT3.out).2.2.2.1; rw [htg] at c3'; have p0 := block_at HP3.out (i := 0) (v := .int .u8 (a.pid : Int)) rfl; clear k3 hg3 hs3) | (refine wpl_loadB flatRw rfl (.tmp 4) rfl _ rfl HW3.out rfl ?_) | (refine wpl_storeB flatRw rfl (.tmp 8) (.tmp 77) rfl _ rfl _ rfl HZ3.out rfl rfl rfl ?_; intro z1 kz1 hgz1 hsz1; have HQz := Lib.hid (grown_block hgz1 HO3.out (fun e => by injection e; omega)); replace kz1 := Lib.hid kz1; replace hgz1 := Lib.hid hgz1; clear hsz1) | (refine wpl_storeB flatOut rfl (.tmp 9) (.tmp 78) rfl _ rfl _ rfl HQz.out rfl rfl rfl ?_; intro z2 kz2 hgz2 hsz2; have KZ1 := Lib.hid (grown_block hgz2 kz1.out (fun e => by injection e; omega)); replace kz2 := Lib.hid kz2; replace hgz2 := Lib.hid hgz2; clear hsz2))
          refine bodyPost_ret (ret_cell2 flatRw flatOut rfl _ (w.heap.size + 1 + 1 + 1) rfl KZ1.out rfl (w.heap.size + 1 + 1 + 1 + 1) rfl kz2.out rfl) rfl ?_
          exact rdo_end (r := 6) H3.out M3.out hgz1.out hgz2.out BZ.out.2 BO.out.2 (by omega) (by omega) HN.out (RdS.nil _)
      · have hx1 := HX.out rfl
        subst hx1
        obtain rfl : tg = _ := Bool.eq_not.2 htb
        simp only [Bool.not_true, Bool.not_false] at *
        go_enter Tryd.func44, Tryd.ntmps44
        go_wp2_with fail
        refine (KA.out _ _ F H0.out (Nat.le_trans HN.out M0.out.size)).mono ?_
        rintro e y2 ⟨v2, F2, A', c', rfl, _, h2, hm2⟩
        obtain ⟨Ba, da, Bf, df, B2, d2', B3, d3', rfl, _⟩ := id h2
        have X1 := hm2.box ⟨HW.out, NF.out _ (by omega)⟩
        have X2 := hm2.box ⟨HT.out, NF.out _ (by omega)⟩
        have X3 := hm2.box ⟨HP.out, NF.out _ (by omega)⟩
        have X4 := hm2.box ⟨HZ.out, NF.out _ (by omega)⟩
        have X5 := hm2.box ⟨HO.out, NF.out _ (by omega)⟩
        have M2 := Lib.hid (M0.out.trans hm2)
        have H2 := Lib.hid h2
        have hFN := (rwA N _ x).ge H0.out
        have R2 := Lib.hid (HR0.out.keep (w' := y2) fun k hk => hm2.keep k (Nat.lt_of_lt_of_le hk.2 (Nat.le_trans HN.out M0.out.size)) (fun hf => by have := (hFN k hf).1; omega))
        have BW := Lib.hid X1
        have BT := Lib.hid X2
        have BP := Lib.hid X3
        have BZ := Lib.hid X4
        have BO := Lib.hid X5
        clear X1 X2 X3 X4 X5 h2 hm2 hFN c3' c4' c5' p0 p9 HW HT HP HZ HO H0 HR0 M0 KA Hh Hr
        go_wp2_with (first | (refine wpl_storeB flatRw rfl (.tmp 4) (.tmp 68) rfl _ rfl _ rfl BW.out.1 rfl rfl rfl ?_; intro y3 k3 hg3 hs3; have HW3 := Lib.hid k3; have HT3 := Lib.hid (grown_block hg3 BT.out.1 (fun e => by injection e; omega)); have HP3 := Lib.hid (grown_block hg3 BP.out.1 (fun e => by injection e; omega)); have HZ3 := Lib.hid (grown_block hg3 BZ.out.1 (fun e => by injection e; omega)); have HO3 := Lib.hid (grown_block hg3 BO.out.1 (fun e => by injection e; omega)); have H3 := Lib.hid (Asr.grown H2.out hg3 BW.out.2 HN.out (Nat.le_trans HN.out M2.out.size)); have M3 := Lib.hid (M2.out.grown_new hg3 (Nat.le_refl _)); have R3 := Lib.hid (R2.out.grown hg3 (fun k hk => by have := HN.out; omega)); have c3' := (tr_cells HT3.out).2.2.2.1; rw [htg] at c3'; have p0 := block_at HP3.out (i := 0) (v := .int .u8 (a.pid : Int)) rfl; clear k3 hg3 hs3) | (refine wpl_loadB flatRw rfl (.tmp 4) rfl _ rfl HW3.out rfl ?_) | (refine wpl_storeB flatRw rfl (.tmp 8) (.tmp 77) rfl _ rfl _ rfl HZ3.out rfl rfl rfl ?_; intro z1 kz1 hgz1 hsz1; have HQz := Lib.hid (grown_block hgz1 HO3.out (fun e => by injection e; omega)); replace kz1 := Lib.hid kz1; replace hgz1 := Lib.hid hgz1; clear hsz1) | (refine wpl_storeB flatOut rfl (.tmp 9) (.tmp 78) rfl _ rfl _ rfl HQz.out rfl rfl rfl ?_; intro z2 kz2 hgz2 hsz2; have KZ1 := Lib.hid (grown_block hgz2 kz1.out (fun e => by injection e; omega)); replace kz2 := Lib.hid kz2; replace hgz2 := Lib.hid hgz2; clear hsz2))
        refine bodyPost_ret (ret_cell2 flatRw flatOut rfl _ (w.heap.size + 1 + 1 + 1) rfl KZ1.out rfl (w.heap.size + 1 + 1 + 1 + 1) rfl kz2.out rfl) rfl ?_
        exact rdo_end (r := 6) H3.out M3.out hgz1.out hgz2.out BZ.out.2 BO.out.2 (by omega) (by omega) HN.out (RdS.nil _)
  · skip
    cases b3
    · cases b11
      · simp at i21
      · obtain rfl : (x, 1, a.data) = R := by have := HR.out; rw [if_pos ⟨rfl, HQ.out⟩, if_neg hm, if_pos rfl] at this; exact this
        clear HR
        go_enter Tryd.func44, Tryd.ntmps44
        go_wp2
        refine startTP (S := fun a => a.block = w.heap.size ∨ a.block = w.heap.size + 1 + 1) (T := []) (fun X => X.heap[w.heap.size]? = some (.cells #[.slice Aa x.ans.length ca, .slice Af x.flt.length cf, .slice A2 x.heard.length c2, .slice A3 x.sent.length c3] 67) ∧ X.heap[w.heap.size + 1 + 1]? = some (pkB a A c) ∧ X.heap[w.heap.size + 1 + 1 + 1]? = some (.cells #[.slice none 0 0, .slice none 0 0, .slice none 0 0, .slice none 0 0] 67) ∧ X.heap[w.heap.size + 1 + 1 + 1 + 1]? = some (.cells #[.int .u8 0, .slice none 0 0] 56) ∧ (rwA N (.agg #[.slice Aa x.ans.length ca, .slice Af x.flt.length cf, .slice A2 x.heard.length c2, .slice A3 x.sent.length c3]) x).holds F X ∧ RdS (fun k => k < N.lo ∧ k < N.hi) X A c a.data ∧ Mv F w F X) 6 (by kernel_rfl) rfl (l := #[false, false, false, false, false, false]) rfl ⟨HW.out, HP.out, HZ.out, HO.out, Asr.drew H0.out, HR0.out.drew, M0.out.drew⟩ ?_
        rintro x0 ⟨q1, q2, q3, q4, q5, q6, q7⟩
        have d1 := range_of q1
        have d2 := block_at q2 (i := 9) (v := .slice A a.data.length c) rfl
        refine takeT 0 (v := (.agg #[.slice Aa x.ans.length ca, .slice Af x.flt.length cf, .slice A2 x.heard.length c2, .slice A3 x.sent.length c3])) rfl (by decide +kernel) (by decide +kernel) (by decide +kernel) (fun _ _ _ h => h) (by decide +kernel) (yieldsIf_load_mid (by rfl) _ (.tmp 4) rfl w.heap.size 0 rfl [.slice Aa x.ans.length ca, .slice Af x.flt.length cf, .slice A2 x.heard.length c2, .slice A3 x.sent.length c3] _ (fun W hW => range_sm hW (fun j => .inl rfl) d1) Tryd.underlying67 rfl (by kernel_rfl)) ?_
        try simp only [Act.put, List.setIfInBounds_toArray, List.set_cons_zero, List.set_cons_succ]
        clear d1
        ((first | (refine takeT 1 (v := ?_) rfl (by decide +kernel) (by decide +kernel) (by decide +kernel) (fun _ _ _ h => h) (by decide +kernel) (Or.inl ⟨by rfl, ?_⟩) ?_; rotate_left 1; (focus (intro W hW; have hcW := hW.at; (try dsimp only at hcW); go_simp; first | done | with_reducible rfl)); try simp only [Act.put, List.setIfInBounds_toArray, List.set_cons_zero, List.set_cons_succ]) | (refine takeW 1 (v := ?_) rfl (by decide +kernel) (by decide +kernel) (by decide +kernel) (fun _ _ _ h => h) (Or.inl ⟨by rfl, ?_⟩) ?_; rotate_left 1; (focus (intro W hW; go_simp; first | done | with_reducible rfl)); try simp only [Act.put, List.setIfInBounds_toArray, List.set_cons_zero, List.set_cons_succ]) | (refine takeW 1 rfl (by decide +kernel) (by decide +kernel) (by decide +kernel) (fun _ _ _ h => h) (Or.inr ⟨by rfl, rfl⟩) ?_; try simp only [Act.put, List.setIfInBounds_toArray, List.set_cons_zero, List.set_cons_succ]) | skip); (first | (refine takeT 2 (v := ?_) rfl (by decide +kernel) (by decide +kernel) (by decide +kernel) (fun _ _ _ h => h) (by decide +kernel) (Or.inl ⟨by rfl, ?_⟩) ?_; rotate_left 1; (focus (intro W hW; have hcW := hW.at; (try dsimp only at hcW); go_simp; first | done | with_reducible rfl)); try simp only [Act.put, List.setIfInBounds_toArray, List.set_cons_zero, List.set_cons_succ]) | (refine takeW 2 (v := ?_) rfl (by decide +kernel) (by decide +kernel) (by decide +kernel) (fun _ _ _ h => h) (Or.inl ⟨by rfl, ?_⟩) ?_; rotate_left 1; (focus (intro W hW; go_simp; first | done | with_reducible rfl)); try simp only [Act.put, List.setIfInBounds_toArray, List.set_cons_zero, List.set_cons_succ]) | (refine takeW 2 rfl (by decide +kernel) (by decide +kernel) (by decide +kernel) (fun _ _ _ h => h) (Or.inr ⟨by rfl, rfl⟩) ?_; try simp only [Act.put, List.setIfInBounds_toArray, List.set_cons_zero, List.set_cons_succ]) | skip); (first | (refine takeT 3 (v := ?_) rfl (by decide +kernel) (by decide +kernel) (by decide +kernel) (fun _ _ _ h => h) (by decide +kernel) (Or.inl ⟨by rfl, ?_⟩) ?_; rotate_left 1; (focus (intro W hW; have hcW := hW.at; (try dsimp only at hcW); go_simp; first | done | with_reducible rfl)); try simp only [Act.put, List.setIfInBounds_toArray, List.set_cons_zero, List.set_cons_succ]) | (refine takeW 3 (v := ?_) rfl (by decide +kernel) (by decide +kernel) (by decide +kernel) (fun _ _ _ h => h) (Or.inl ⟨by rfl, ?_⟩) ?_; rotate_left 1; (focus (intro W hW; go_simp; first | done | with_reducible rfl)); try simp only [Act.put, List.setIfInBounds_toArray, List.set_cons_zero, List.set_cons_succ]) | (refine takeW 3 rfl (by decide +kernel) (by decide +kernel) (by decide +kernel) (fun _ _ _ h => h) (Or.inr ⟨by rfl, rfl⟩) ?_; try simp only [Act.put, List.setIfInBounds_toArray, List.set_cons_zero, List.set_cons_succ]) | skip))
        clear d2
        refine stepT 4 rfl (by decide +kernel) (by rfl) ?_
        intro K hK
        refine wp_storeB flatRw (.tmp 8) (.tmp 60) rfl (w.heap.size + 1 + 1 + 1) rfl _ rfl q3 rfl rfl rfl ?_
        intro z1 k1 hg1 hs1
        refine hK _ _ (.inr (sm_grown hg1 hs1 fun a ha => by rcases ha with h | h <;> omega)) ?_
        clear hK K
        try simp only [Act.put, List.setIfInBounds_toArray, List.set_cons_zero, List.set_cons_succ]
        have q4z := grown_block hg1 q4 (fun e => by injection e; omega)
        refine stepT 5 rfl (by decide +kernel) (by rfl) ?_
        intro K hK
        refine wp_storeB flatOut (.tmp 9) (.tmp 63) rfl (w.heap.size + 1 + 1 + 1 + 1) rfl _ rfl q4z rfl rfl rfl ?_
        intro z2 k2 hg2 hs2
        refine hK _ _ (.inr (sm_grown hg2 hs2 fun a ha => by rcases ha with h | h <;> omega)) ?_
        clear hK K
        try simp only [Act.put, List.setIfInBounds_toArray, List.set_cons_zero, List.set_cons_succ]
        refine doneT (by kernel_rfl) ?_
        have Q := Lib.hid (show _ ∧ _ ∧ _ ∧ _ ∧ _ from ⟨q5, q6, q7, hg1, hg2⟩)
        have K1 := Lib.hid (grown_block hg2 k1 (fun e => by injection e; omega))
        have K2 := Lib.hid k2
        clear q1 q2 q3 q4 q5 q6 q7 q4z hg1 hg2 k1 k2 hs1 hs2
        go_wp2
        refine bodyPost_ret (ret_cell2 flatRw flatOut rfl _ (w.heap.size + 1 + 1 + 1) rfl K1.out rfl (w.heap.size + 1 + 1 + 1 + 1) rfl K2.out rfl) rfl ?_
        exact rdo_end (r := 1) Q.out.1 Q.out.2.2.1 Q.out.2.2.2.1 Q.out.2.2.2.2 (NF.out _ (by omega)) (NF.out _ (by omega)) (by omega) (by omega) HN.out Q.out.2.1
    · have hx1 := HX.out rfl
      subst hx1
      obtain rfl : (x, 1, a.data) = R := by have := HR.out; rw [if_pos ⟨rfl, HQ.out⟩, if_neg hm, if_pos rfl] at this; exact this
      clear HR
      go_enter Tryd.func44, Tryd.ntmps44
      go_wp2
      refine startTP (S := fun a => a.block = w.heap.size ∨ a.block = w.heap.size + 1 + 1) (T := []) (fun X => X.heap[w.heap.size]? = some (.cells #[.slice Aa x.ans.length ca, .slice Af x.flt.length cf, .slice A2 x.heard.length c2, .slice A3 x.sent.length c3] 67) ∧ X.heap[w.heap.size + 1 + 1]? = some (pkB a A c) ∧ X.heap[w.heap.size + 1 + 1 + 1]? = some (.cells #[.slice none 0 0, .slice none 0 0, .slice none 0 0, .slice none 0 0] 67) ∧ X.heap[w.heap.size + 1 + 1 + 1 + 1]? = some (.cells #[.int .u8 0, .slice none 0 0] 56) ∧ (rwA N (.agg #[.slice Aa x.ans.length ca, .slice Af x.flt.length cf, .slice A2 x.heard.length c2, .slice A3 x.sent.length c3]) x).holds F X ∧ RdS (fun k => k < N.lo ∧ k < N.hi) X A c a.data ∧ Mv F w F X) 6 (by kernel_rfl) rfl (l := #[false, false, false, false, false, false]) rfl ⟨HW.out, HP.out, HZ.out, HO.out, Asr.drew H0.out, HR0.out.drew, M0.out.drew⟩ ?_
      rintro x0 ⟨q1, q2, q3, q4, q5, q6, q7⟩
      have d1 := range_of q1
      have d2 := block_at q2 (i := 9) (v := .slice A a.data.length c) rfl
      refine takeT 0 (v := (.agg #[.slice Aa x.ans.length ca, .slice Af x.flt.length cf, .slice A2 x.heard.length c2, .slice A3 x.sent.length c3])) rfl (by decide +kernel) (by decide +kernel) (by decide +kernel) (fun _ _ _ h => h) (by decide +kernel) (yieldsIf_load_mid (by rfl) _ (.tmp 4) rfl w.heap.size 0 rfl [.slice Aa x.ans.length ca, .slice Af x.flt.length cf, .slice A2 x.heard.length c2, .slice A3 x.sent.length c3] _ (fun W hW => range_sm hW (fun j => .inl rfl) d1) Tryd.underlying67 rfl (by kernel_rfl)) ?_
      try simp only [Act.put, List.setIfInBounds_toArray, List.set_cons_zero, List.set_cons_succ]
      clear d1
      ((first | (refine takeT 1 (v := ?_) rfl (by decide +kernel) (by decide +kernel) (by decide +kernel) (fun _ _ _ h => h) (by decide +kernel) (Or.inl ⟨by rfl, ?_⟩) ?_; rotate_left 1; (focus (intro W hW; have hcW := hW.at; (try dsimp only at hcW); go_simp; first | done | with_reducible rfl)); try simp only [Act.put, List.setIfInBounds_toArray, List.set_cons_zero, List.set_cons_succ]) | (refine takeW 1 (v := ?_) rfl (by decide +kernel) (by decide +kernel) (by decide +kernel) (fun _ _ _ h => h) (Or.inl ⟨by rfl, ?_⟩) ?_; rotate_left 1; (focus (intro W hW; go_simp; first | done | with_reducible rfl)); try simp only [Act.put, List.setIfInBounds_toArray, List.set_cons_zero, List.set_cons_succ]) | (refine takeW 1 rfl (by decide +kernel) (by decide +kernel) (by decide +kernel) (fun _ _ _ h => h) (Or.inr ⟨by rfl, rfl⟩) ?_; try simp only [Act.put, List.setIfInBounds_toArray, List.set_cons_zero, List.set_cons_succ]) | skip); (first | (refine takeT 2 (v := ?_) rfl (by decide +kernel) (by decide +kernel) (by decide +kernel) (fun _ _ _ h => h) (by decide +kernel) (Or.inl ⟨by rfl, ?_⟩) ?_; rotate_left 1; (focus (intro W hW; have hcW := hW.at; (try dsimp only at hcW); go_simp; first | done | with_reducible rfl)); try simp only [Act.put, List.setIfInBounds_toArray, List.set_cons_zero, List.set_cons_succ]) | (refine takeW 2 (v := ?_) rfl (by decide +kernel) (by decide +kernel) (by decide +kernel) (fun _ _ _ h => h) (Or.inl ⟨by rfl, ?_⟩) ?_; rotate_left 1; (focus (intro W hW; go_simp; first | done | with_reducible rfl)); try simp only [Act.put, List.setIfInBounds_toArray, List.set_cons_zero, List.set_cons_succ]) | (refine takeW 2 rfl (by decide +kernel) (by decide +kernel) (by decide +kernel) (fun _ _ _ h => h) (Or.inr ⟨by rfl, rfl⟩) ?_; try simp only [Act.put, List.setIfInBounds_toArray, List.set_cons_zero, List.set_cons_succ]) | skip); (first | (refine takeT 3 (v := ?_) rfl (by decide +kernel) (by decide +kernel) (by decide +kernel) (fun _ _ _ h => h) (by decide +kernel) (Or.inl ⟨by rfl, ?_⟩) ?_; rotate_left 1; (focus (intro W hW; have hcW := hW.at; (try dsimp only at hcW); go_simp; first | done | with_reducible rfl)); try simp only [Act.put, List.setIfInBounds_toArray, List.set_cons_zero, List.set_cons_succ]) | (refine takeW 3 (v := ?_) rfl (by decide +kernel) (by decide +kernel) (by decide +kernel) (fun _ _ _ h => h) (Or.inl ⟨by rfl, ?_⟩) ?_; rotate_left 1; (focus (intro W hW; go_simp; first | done | with_reducible rfl)); try simp only [Act.put, List.setIfInBounds_toArray, List.set_cons_zero, List.set_cons_succ]) | (refine takeW 3 rfl (by decide +kernel) (by decide +kernel) (by decide +kernel) (fun _ _ _ h => h) (Or.inr ⟨by rfl, rfl⟩) ?_; try simp only [Act.put, List.setIfInBounds_toArray, List.set_cons_zero, List.set_cons_succ]) | skip))
      clear d2
      refine stepT 4 rfl (by decide +kernel) (by rfl) ?_
      intro K hK
      refine wp_storeB flatRw (.tmp 8) (.tmp 60) rfl (w.heap.size + 1 + 1 + 1) rfl _ rfl q3 rfl rfl rfl ?_
      intro z1 k1 hg1 hs1
      refine hK _ _ (.inr (sm_grown hg1 hs1 fun a ha => by rcases ha with h | h <;> omega)) ?_
      clear hK K
      try simp only [Act.put, List.setIfInBounds_toArray, List.set_cons_zero, List.set_cons_succ]
      have q4z := grown_block hg1 q4 (fun e => by injection e; omega)
      refine stepT 5 rfl (by decide +kernel) (by rfl) ?_
      intro K hK
      refine wp_storeB flatOut (.tmp 9) (.tmp 63) rfl (w.heap.size + 1 + 1 + 1 + 1) rfl _ rfl q4z rfl rfl rfl ?_
      intro z2 k2 hg2 hs2
      refine hK _ _ (.inr (sm_grown hg2 hs2 fun a ha => by rcases ha with h | h <;> omega)) ?_
      clear hK K
      try simp only [Act.put, List.setIfInBounds_toArray, List.set_cons_zero, List.set_cons_succ]
      refine doneT (by kernel_rfl) ?_
      have Q := Lib.hid (show _ ∧ _ ∧ _ ∧ _ ∧ _ from ⟨q5, q6, q7, hg1, hg2⟩)
      have K1 := Lib.hid (grown_block hg2 k1 (fun e => by injection e; omega))
      have K2 := Lib.hid k2
      clear q1 q2 q3 q4 q5 q6 q7 q4z hg1 hg2 k1 k2 hs1 hs2
      go_wp2
      refine bodyPost_ret (ret_cell2 flatRw flatOut rfl _ (w.heap.size + 1 + 1 + 1) rfl K1.out rfl (w.heap.size + 1 + 1 + 1 + 1) rfl K2.out rfl) rfl ?_
      exact rdo_end (r := 1) Q.out.1 Q.out.2.2.1 Q.out.2.2.2.1 Q.out.2.2.2.2 (NF.out _ (by omega)) (NF.out _ (by omega)) (by omega) (by omega) HN.out Q.out.2.1

end Go.Proofs.YtkfkcpogcobmbaaDoor
