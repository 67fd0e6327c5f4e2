/-
  Helper text: the device of the examples; no statement is proved here.
-/
import Derived.Test.YtkfkcpogcobmbaaDoorWir
namespace Go.Proofs.YtkfkcpogcobmbaaDoor
open Go Go.RowKit

/-- What the device of the examples answers. -/
def exA (p : Pkt) : Pkt × Bool := if p.pid = 9 then (⟨3, 0, 0, 0, 0, 0, false, false, 0, [7]⟩, true) else if p.pid = 3 ∨ p.pid = 11 then (⟨2, 0, 0, 0, 0, 0, false, false, 0, []⟩, true) else (zeroP, false)
theorem exA_ok (p : Pkt) : (exA p).1.Ok := by
  unfold exA
  split
  · constructor <;> simp
  · split
    · constructor <;> simp
    · exact zeroP_ok

/-- An answer in new memory is returned. -/
def AnsNew (w : World) (a : Pkt × Bool) (e : Ending) (w' : World) : Prop :=
  ∃ A c, e = .returned (.tuple #[pkV a.1 A c, .bool a.2]) ∧ RdS (fun k => w.heap.size ≤ k ∧ k < w'.heap.size) w' A c a.1.data ∧ Below w.heap.size w w'

theorem seven_rd (W : World) (t : Nat) : RdS (fun k => k = W.heap.size) (W.alloc (.cells #[.int .u8 7] t)) (some ⟨W.heap.size, 0, none⟩) 1 [7] :=
  ⟨by simp, by omega, fun _ => ⟨W.heap.size, 0, rfl, rfl, fun j hj => by
    have : j = 0 := by simpa using hj
    subst this
    exact block_at (alloc1 W _) rfl⟩⟩

set_option maxHeartbeats 800000 in
set_option maxRecDepth 100000 in
theorem ex_any (w : World) (p : Pkt) (A : Option Addr) (c : Nat) : Calls Tryd.prog 34 #[pkV p A c] w (AnsNew w (exA p)) := by
  obtain ⟨g0, g1, g2, g3⟩ := alloc2 w (pkB p A c) pkZ
  have c0 := block_at g0 (i := 0) (v := .int .u8 (p.pid : Int)) rfl
  have B1 := Lib.hid g1
  have Hsz := Lib.hid g2
  have Hb := Lib.hid g3
  obtain ⟨b9, hb9⟩ : ∃ b9, (p.pid == 9) = b9 := ⟨_, rfl⟩
  obtain ⟨b3, hb3⟩ : ∃ b3, (p.pid == 3) = b3 := ⟨_, rfl⟩
  obtain ⟨b11, hb11⟩ : ∃ b11, (p.pid == 11) = b11 := ⟨_, rfl⟩
  have i9 : ((p.pid : Int) == 9) = b9 := by rw [show ((p.pid : Int) == 9) = (p.pid == 9) from castEq p.pid 9, hb9]
  have i3 : ((p.pid : Int) == 3) = b3 := by rw [show ((p.pid : Int) == 3) = (p.pid == 3) from castEq p.pid 3, hb3]
  have i11 : ((p.pid : Int) == 11) = b11 := by rw [show ((p.pid : Int) == 11) = (p.pid == 11) from castEq p.pid 11, hb11]
  obtain ⟨R, hR⟩ : ∃ R, exA p = R := ⟨_, rfl⟩
  rw [hR]
  unfold exA at hR
  have HR := Lib.hid hR
  have H9 := Lib.hid hb9
  have H3 := Lib.hid hb3
  have H11 := Lib.hid hb11
  clear g0 g1 g2 g3 hb9 hb3 hb11 hR
  cases b9
  · rw [if_neg (by simpa using H9.out)] at HR
    by_cases hd : b3 = false ∧ b11 = false
    · obtain ⟨rfl, rfl⟩ := hd
      rw [if_neg (fun h => h.elim (by simpa using H3.out) (by simpa using H11.out))] at HR
      have := HR.out
      subst this
      go_enter Tryd.func34, Tryd.ntmps34
      go_wp2_with (refine wpl_storeB flatPk rfl (.tmp 2) (.tmp 14) rfl _ rfl _ rfl B1.out rfl rfl rfl ?_; intro y k2 hg hs)
      refine bodyPost_ret (ret_cell_tmp flatPk rfl _ (w.heap.size + 1) rfl k2 rfl) rfl ?_
      exact ⟨none, 0, rfl, RdS.nil _, below_grown Hb.out hg Hb.out.size (by omega)⟩
    · have hd' : (b3 = true ∧ True) ∨ (b3 = false ∧ b11 = true) := by cases b3 <;> cases b11 <;> simp_all
      rw [if_pos (by rcases hd' with ⟨rfl, _⟩ | ⟨rfl, rfl⟩; (exact .inl (by simpa using H3.out)); (exact .inr (by simpa using H11.out)))] at HR
      have := HR.out
      subst this
      clear hd
      rcases hd' with ⟨rfl, _⟩ | ⟨rfl, rfl⟩
      all_goals
        go_enter Tryd.func34, Tryd.ntmps34
        go_wp2_with (refine wpl_storeB flatPk rfl (.tmp 2) (.tmp 13) rfl _ rfl _ rfl B1.out rfl rfl rfl ?_; intro y k2 hg hs)
        refine bodyPost_ret (ret_cell_tmp flatPk rfl _ (w.heap.size + 1) rfl k2 rfl) rfl ?_
        exact ⟨none, 0, rfl, RdS.nil _, below_grown Hb.out hg Hb.out.size (by omega)⟩
  · rw [if_pos (by simpa using H9.out)] at HR
    have := HR.out
    subst this
    obtain ⟨j0, j1, j2, j3, j4⟩ := alloc3 w (pkB p A c) pkZ (.cells #[.int .u8 7] 5)
    have J1 := Lib.hid j1
    have J3 := Lib.hid j3
    have J4 := Lib.hid j4
    have J7 := seven_rd ((w.alloc (pkB p A c)).alloc pkZ) 5
    rw [Hsz.out] at J7
    have J8 := Lib.hid J7
    clear j0 j1 j2 j3 j4 J7
    go_enter Tryd.func34, Tryd.ntmps34
    go_wp2_with (refine wpl_storeB flatPk rfl (.tmp 2) (.tmp 9) rfl _ rfl _ rfl J1.out rfl rfl rfl ?_; intro y k2 hg hs)
    refine bodyPost_ret (ret_cell_tmp flatPk rfl _ (w.heap.size + 1) rfl k2 rfl) rfl ?_
    exact ⟨some ⟨w.heap.size + 1 + 1, 0, none⟩, 1, rfl, (J8.out.grown hg fun k hk => by omega).mono fun k hk => ⟨by omega, by have := hg.size; rw [J3.out] at this; omega⟩, below_grown J4.out hg J4.out.size (by omega)⟩

/-- The example as a value. -/
abbrev exF : Value := .func (.func 34) #[] #[]
/-- What its method answers. -/
def exR (p : Pkt) : Pkt × Bool := if (exA p).2 = true then exA p else (zeroP, false)

set_option maxHeartbeats 1600000 in
set_option maxRecDepth 100000 in
theorem exHear_any (w : World) (p : Pkt) (ok : p.Ok) (A : Option Addr) (c : Nat) (hr : Rd w w.heap.size A c p.data) :
    Calls Tryd.prog 12 #[exF, pkV p A c] w (AnsNew w (exR p)) := by
  have qF : ∀ (w : World), (binOp .eql 33 exF .nilFunc).run Tryd.prog w = .ok (.bool false) w := fun w => by kernel_rfl
  obtain ⟨g0, g1, g2, g3⟩ := alloc2 w (pkB p A c) pkZ
  have K0 := Lib.hid (own_any _ p A c ((hr.below g3).more g3.size) ok.len)
  have hao := exA_ok p
  have KE := Lib.hid fun X A c => ex_any X p A c
  obtain ⟨R, hR⟩ : ∃ R, exR p = R := ⟨_, rfl⟩
  rw [hR]
  unfold exR at hR
  generalize exA p = q at *
  obtain ⟨a, o⟩ := q
  have KO := Lib.hid fun X A c (hX : Rd X X.heap.size A c a.data) => own_any X a A c hX hao.len
  have HR := Lib.hid hR
  have B0 := Lib.hid g0
  have B1 := Lib.hid g1
  have Hsz := Lib.hid g2
  have Hb := Lib.hid g3
  clear g0 g1 g2 g3 hr hR hao ok
  go_enter Tryd.func12, Tryd.ntmps12
  go_wp2_with (refine wpl_loadB flatPk rfl (.tmp 3) rfl _ rfl B0.out rfl ?_)
  refine K0.out.mono ?_
  rintro e y ⟨A1, c1, rfl, hr1, hb1⟩
  have Hb1 := Lib.hid (Hb.out.trans (hb1.mono Hb.out.size))
  have B11 := Lib.hid ((hb1.block _ (block_lt B1.out)).trans B1.out)
  clear hr1 hb1
  go_wp2_with fail
  refine (KE.out y A1 c1).mono ?_
  rintro e z ⟨A2, c2, rfl, hr2, hb2⟩
  have Hb2 := Lib.hid (Hb1.out.trans (hb2.mono Hb1.out.size))
  have B12 := Lib.hid ((hb2.block _ (block_lt B11.out)).trans B11.out)
  have Hr2 := Lib.hid (hr2.mono (G := fun k => k < z.heap.size) fun k hk => hk.2)
  have k6 := Lib.hid (alloc1 z pkZ)
  have Hbz := Lib.hid ((Below.refl z.heap.size z).alloc (Nat.le_refl _) pkZ)
  clear hr2 hb2
  cases o
  · have hR1 : R = (zeroP, false) := by rw [← HR.out]; simp
    subst hR1
    go_wp2_with (first | (refine wpl_storeB flatPk rfl (.tmp 6) (.tmp 16) rfl _ rfl _ rfl k6.out rfl rfl rfl ?_; intro z1 k61 hg1 hs1; have B13 := Lib.hid (grown_block hg1 ((Hbz.out.block _ (block_lt B12.out)).trans B12.out) (fun e => by injection e; have := block_lt B12.out; omega)); have Hb3 := Lib.hid (Hb2.out.trans ((below_grown Hbz.out hg1 Hbz.out.size (Nat.le_refl _)).mono Hb2.out.size)); clear hg1 hs1 k61) | (refine wpl_storeB flatPk rfl (.tmp 4) (.tmp 20) rfl _ rfl _ rfl B13.out rfl rfl rfl ?_; intro z2 k2 hg2 hs2))
    refine bodyPost_ret (ret_cell_tmp flatPk rfl _ (w.heap.size + 1) rfl k2 rfl) rfl ?_
    exact ⟨none, 0, rfl, RdS.nil _, below_grown Hb3.out hg2 Hb3.out.size (by omega)⟩
  · have hR1 : R = (a, true) := by rw [← HR.out]; simp
    subst hR1
    go_wp2_with (first | (refine wpl_storeB flatPk rfl (.tmp 6) (.tmp 16) rfl _ rfl _ rfl k6.out rfl rfl rfl ?_; intro z1 k61 hg1 hs1; have B13 := Lib.hid (grown_block hg1 ((Hbz.out.block _ (block_lt B12.out)).trans B12.out) (fun e => by injection e; have := block_lt B12.out; omega)); have Hr3 := Lib.hid ((Hr2.out.below Hbz.out).grown hg1 (fun k hk => by omega)); have Hb3 := Lib.hid (Hb2.out.trans ((below_grown Hbz.out hg1 Hbz.out.size (Nat.le_refl _)).mono Hb2.out.size)); replace k61 := Lib.hid k61; clear hg1 hs1) | (refine wpl_loadB flatPk rfl (.tmp 6) rfl _ rfl k61.out rfl ?_))
    refine (KO.out z1 A2 c2 Hr3.out.rdT).mono ?_
    rintro e u ⟨A4, c4, rfl, hr4, hb4⟩
    have B14 := Lib.hid ((hb4.block _ (block_lt B13.out)).trans B13.out)
    have Hb4 := Lib.hid (Hb3.out.trans (hb4.mono Hb3.out.size))
    have Hr4 := Lib.hid hr4
    have Hlt := Lib.hid (block_lt B13.out)
    clear hr4 hb4
    go_wp2_with (refine wpl_storeB flatPk rfl (.tmp 4) (.tmp 22) rfl _ rfl _ rfl B14.out rfl rfl rfl ?_; intro z2 k2 hg2 hs2)
    refine bodyPost_ret (ret_cell_tmp flatPk rfl _ (w.heap.size + 1) rfl k2 rfl) rfl ?_
    have := Hlt.out
    exact ⟨A4, c4, rfl, (Hr4.out.grown hg2 fun k hk => by omega).mono fun k hk => ⟨by omega, by rw [hs2]; exact hk.2⟩, below_grown Hb4.out hg2 Hb4.out.size (by omega)⟩

/-- .. as a device. -/
def exH (_ : Unit) (p : Pkt) : Unit × Pkt × Bool := ((), exR p)
theorem exR_ok (p : Pkt) : (exR p).1.Ok := by
  unfold exR
  split
  · exact exA_ok p
  · exact zeroP_ok
theorem ex_dev (N : Nat) : DevOK (fun _ : Unit => noA N) exH 33 exF 12 exF (fun _ => True) where
  ahead := fun w => by kernel_rfl
  meth := fun w => by kernel_rfl
  enter := fun args w => by kernel_rfl
  call := fun w s F p A c _ hF ok hr hN => (exHear_any w p ok A c hr.rdT).mono fun e w' ⟨A', c', h1, h2, h3⟩ => ⟨A', c', F, h1, exR_ok p, h2.mono fun k hk => .inr (.inr hk.1), hF, Mv.of_below F h3⟩

end Go.Proofs.YtkfkcpogcobmbaaDoor
