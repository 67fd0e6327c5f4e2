/-
  Helper text: the walk of the law TransactionsDo; no statement is proved here.
-/
import Derived.Test.YtkfkcpogcobmbaaDoorRdo
import Derived.Test.YtkfkcpogcobmbaaDoorRefCk
import Derived.Test.YtkfkcpogcobmbaaDoorScE
import Derived.Test.YtkfkcpogcobmbaaDoorSml
import Derived.Test.YtkfkcpogcobmbaaDoorRowZ
import Derived.Test.YtkfkcpogcobmbaaDoorLives
namespace Go.Proofs.YtkfkcpogcobmbaaDoor
open Go Go.RowKit

theorem doW_len (x : Rw) (t : Tr) : (doW x t).1.sent.length ≤ x.sent.length + 4 ∧ (doW x t).1.heard.length ≤ x.heard.length + 2 := by
  have h1 := speakW_len x (tokP t)
  have h2 := speakW_len (speakW x (tokP t)).1 (datP t)
  have h3 := speakW_len (speakW x (tokP t)).1 ackP
  unfold doW inW arrR
  dsimp only
  repeat' split
  all_goals (dsimp only; try simp only [List.length_append, List.length_cons, List.length_nil])
  all_goals omega
theorem smBlk6 {w W : World} {b1 b2 b3 b4 b5 n : Nat} (hb : Below w.heap.size w W) (h1 : b1 < w.heap.size) (h2 : b2 < w.heap.size) (h3 : b3 < w.heap.size) (h4 : b4 < w.heap.size) (h5 : b5 < w.heap.size) (hn : n ≤ w.heap.size) :
    Sm (fun a => a.block = b1 ∨ a.block = b2 ∨ a.block = b3 ∨ a.block = b4 ∨ a.block = b5 ∨ a.block < n) w W := fun a ha => hb.cell (by rcases ha with h | h | h | h | h | h <;> omega)
theorem RdS.sm {S : Addr → Prop} {F : Nat → Prop} {w W : World} {A : Option Addr} {c : Nat} {xs : List UInt8} (h : RdS F w A c xs) (hW : Sm S w W) (hS : ∀ b o, F b → S ⟨b, o, none⟩) : RdS F W A c xs :=
  ⟨h.le, h.cap, fun hn => by
    obtain ⟨b, off, e, hb, hc⟩ := h.cells hn
    exact ⟨b, off, e, hb, fun j hj => (hW _ (hS b _ hb)).trans (hc j hj)⟩⟩
theorem RdU.set {F : Nat → Prop} {w : World} {A : Option Addr} {c : Nat} {xs : List UInt8} (h : RdU F w A c xs) {b off : Nat} (hA : A = some ⟨b, off, none⟩) {k : Nat} (hk : k < xs.length) (v : UInt8) :
    RdU F (w.setCell ⟨b, off + k, none⟩ (bv v)) A c (xs.set k v) := by
  subst hA
  obtain ⟨b', off', e, hb, hc⟩ := h.rds.cells (by omega)
  injection e with e
  injection e with e1 e2
  subst e1; subst e2
  refine ⟨⟨by rw [List.length_set]; exact h.le, h.cap, fun _ => ⟨b, off, rfl, hb, fun j hj => ?_⟩⟩, fun _ b2 off2 e => ?_⟩
  · rw [List.length_set] at hj
    by_cases e : k = j
    · subst e
      rw [World.cell?_setCell_same _ _ _ (hc k hj)]
      simp [List.getD, hj]
    · rw [World.cell?_setCell_other _ _ _ _ (by intro e2; injection e2 with _ e2; omega), hc j hj]
      simp [List.getD, List.getElem?_set, e]
  · injection e with e
    injection e with e1 e2
    subst e1
    obtain ⟨cs, t, hh⟩ := h.un (by omega) b off rfl
    exact ⟨_, t, block_set hh _ _⟩
theorem bv_inc' (y : UInt8) : Value.int .u8 (((y.toNat : Int) + 1) % 256) = bv (y + 1) := by
  have h : ((y + 1).toNat : Int) = ((y.toNat : Int) + 1) % 256 := by
    rw [UInt8.toNat_add]
    have : (1 : UInt8).toNat = 1 := rfl
    rw [this]; omega
  rw [← h]

set_option maxHeartbeats 3200000 in
set_option maxRecDepth 100000 in
theorem lawDo_long (w : World) (t : Tr) (A : Option Addr) (c : Nat) (A' B : Option Addr) (c' n m cb : Nat) (hl : (1100 : Int) < (t.data.length : Int)) :
    Calls Tryd.prog 6 #[trV t A c, .agg #[.slice A' n c', .slice B m cb]] w (ResB w true) := by
  obtain ⟨g0, g1, _, g3⟩ := alloc2 w (trB t A c) (.cells #[.slice A' n c', .slice B m cb] 62)
  obtain ⟨_, _, _, _, _, _, c6⟩ := tr_cells g0
  have Hb := Lib.hid g3
  clear g0 g1 g3
  go_enter Tryd.func6, Tryd.ntmps6
  go_wp2
  go_ret
  exact ⟨rfl, Hb.out⟩

set_option maxHeartbeats 12800000 in
set_option maxRecDepth 100000 in
theorem lawDo_any (w : World) (hL : Laid w) (hLN : 0 < w.heap.size) (t : Tr) (ok : t.Ok) (A : Option Addr) (c : Nat) (hr : Rd w w.heap.size A c t.data) (A' B : Option Addr) (c' cb : Nat) (l : List Pkt) (xs : List UInt8)
    (hla : RdL layPk (fun k => k < w.heap.size) w A' c' l) (hin : ∀ a ∈ l, a.In) (hx : Rd w w.heap.size B cb xs) (hd : ¬ (1100 : Int) < (t.data.length : Int)) :
    Calls Tryd.prog 6 #[trV t A c, .agg #[.slice A' l.length c', .slice B xs.length cb]] w (ResB w true) := by
  obtain ⟨g0, g1, g2, g3⟩ := alloc2 w (trB t A c) (.cells #[.slice A' l.length c', .slice B xs.length cb] 62)
  obtain ⟨_, _, _, _, _, _, c6⟩ := tr_cells g0
  have Hb := Lib.hid g3
  have B0 := Lib.hid g0
  have B1 := Lib.hid g1
  have Hr := Lib.hid hr.rdS
  have Hla := Lib.hid hla
  have Hx := Lib.hid hx.rdS
  have HL := Lib.hid hL
  have Hin := Lib.hid hin
  have Hok := Lib.hid ok
  have KS := Lib.hid (small_any _ A' B c' cb xs.length l _ (hla.keep fun k hk => g3.block k hk))
  have KC := Lib.hid fun X => tref_any X t A c
  clear g0 g1 g2 g3 hr hla hx hL hin ok
  go_enter Tryd.func6, Tryd.ntmps6
  have e0 := block_at B1.out (i := 0) (v := .slice A' l.length c') rfl
  have e1 := block_at B1.out (i := 1) (v := .slice B xs.length cb) rfl
  go_wp2_with fail
  refine KS.out.mono ?_
  rintro e y0 ⟨sm, ⟨rfl, bb1⟩, hsm⟩
  clear e0 e1 c6 KS
  cases sm
  · have Hy := Lib.hid (Hb.out.trans (bb1.mono Hb.out.size))
    clear bb1
    go_wp2
    go_ret
    exact ⟨rfl, Hy.out⟩
  · have hsp := hsm rfl
    have hb0 := Hb.out.trans (bb1.mono Hb.out.size)
    have B00 := Lib.hid ((bb1.block _ (block_lt B0.out)).trans B0.out)
    have B10 := Lib.hid ((bb1.block _ (block_lt B1.out)).trans B1.out)
    have Hb0 := Lib.hid hb0
    clear bb1 hb0 hsm
    obtain ⟨E, hE⟩ : ∃ E, (t.err : Int) = E := ⟨_, rfl⟩
    simp only [hE] at KC
    go_wp2_with (refine wpl_loadB flatTry rfl (.tmp 2) rfl _ rfl B00.out rfl ?_)
    refine (KC.out _).mono ?_
    rintro e y1 ⟨rfl, bb1⟩
    have hb1 := Hb0.out.trans (bb1.mono Hb0.out.size)
    have B01 := Lib.hid ((bb1.block _ (block_lt B00.out)).trans B00.out)
    have B11 := Lib.hid ((bb1.block _ (block_lt B10.out)).trans B10.out)
    clear bb1 KC Hb0 B00 B10
    by_cases he : ¬ t.err = 0
    · have hE1 : (E != 0) = true := by rw [bne_iff_ne, ← hE]; omega
      have KL := lives_any y1 (HL.out.belowN hb1 hLN) (Nat.lt_of_lt_of_le hLN hb1.size)
      have Hb1 := Lib.hid hb1
      clear hb1 hE he
      go_wp2_with fail
      refine KL.mono ?_
      rintro e y2 ⟨rfl, bb⟩
      have Hb2 := Lib.hid (Hb1.out.trans (bb.mono Hb1.out.size))
      clear bb
      go_wp2
      go_ret
      exact ⟨rfl, Hb2.out⟩
    replace he := Decidable.not_not.1 he
    have hE0 : E = 0 := by rw [← hE, he]; rfl
    subst hE0
    clear hE
    obtain ⟨_, _, _, _, _, _, c6⟩ := tr_cells B01.out
    have e0 := block_at B11.out (i := 0) (v := .slice A' l.length c') rfl
    have e1 := block_at B11.out (i := 1) (v := .slice B xs.length cb) rfl
    have hr1 := Hr.out.keep (w' := y1) fun k hk => hb1.block k hk
    have hcv : (convert 22 9 (.slice A t.data.length c)).run Tryd.prog y1 = .ok (.string ⟨t.data.toArray⟩) y1 := hr1.rdT.str Tryd.underlying22 Tryd.underlying5 Tryd.underlying9
    have Ham : ∀ a ∈ l, a.Ok := fun a ha => by
      obtain ⟨i, hi, rfl⟩ := List.mem_iff_getElem.1 ha
      exact (Hin.out _ ha).ok (by have := hsp.2.2 i hi; omega)
    have hxl : xs.length ≤ 100000 := by have := hsp.2.1; omega
    obtain ⟨fs, hfs⟩ : ∃ fs, xs.map m3 = fs := ⟨_, rfl⟩
    have hfl : fs.length = xs.length := by rw [← hfs]; simp
    obtain ⟨⟨x6, res, out⟩, h6⟩ : ∃ r, doW ⟨l, fs, [], []⟩ t = r := ⟨_, rfl⟩
    have hlen := doW_len ⟨l, fs, [], []⟩ t
    rw [h6] at hlen
    have hR : doR lineN (askR hearS lineN) (l, []) fs t = (x6.host, res, out) := by
      have := do_same l fs t he
      rw [h6] at this
      exact this
    have hN2 := block_lt B11.out
    have ha2 := (Below.refl y1.heap.size y1).alloc (Nat.le_refl _) (.cells #[.slice A' l.length c', .slice none 0 0] 53)
    have hs2 : (y1.alloc (.cells #[.slice A' l.length c', .slice none 0 0] 53)).heap.size = y1.heap.size + 1 := by simp
    have k2 := alloc1 y1 (.cells #[.slice A' l.length c', .slice none 0 0] 53)
    have hS2 : (scA y1.heap.size y1.heap.size (l, [])).holds (fun k => k = y1.heap.size) (y1.alloc (.cells #[.slice A' l.length c', .slice none 0 0] 53)) := by
      refine ⟨Ham, ⟨A', c', _, k2, (Hla.out.keep (w' := y1.alloc _) fun k hk => ?_).mono fun k hk => ?_, OwnL.nil _ _ _⟩, rfl, fun k hk => by subst hk; omega⟩
      · exact (ha2.block k (by have := hb1.size; omega)).trans (hb1.block k hk)
      · have := hb1.size; omega
    have KW := Lib.hid fun (X : World) (hb : Below (y1.alloc (.cells #[.slice A' l.length c', .slice none 0 0] 53)).heap.size (y1.alloc (.cells #[.slice A' l.length c', .slice none 0 0] 53)) X) => show Calls Tryd.prog 16 #[.slice B xs.length cb] X (LinePost X fs) from hfs ▸ wire_any X B cb xs ((Hx.out.keep (w' := X) fun k hk => ((hb.block k (by rw [hs2]; have := hb1.size; omega)).trans (ha2.block k (by have := hb1.size; omega))).trans (hb1.block k hk)).rdT) hxl
    have KSP := Lib.hid fun (X : World) (b' : Nat) (G : Nat → Prop) (hG : (lineA y1.heap.size b' fs).holds G X) (hge : ∀ k, G k → y1.heap.size < k) (hb : Below (y1.alloc (.cells #[.slice A' l.length c', .slice none 0 0] 53)).heap.size (y1.alloc (.cells #[.slice A' l.length c', .slice none 0 0] 53)) X) (hNX : y1.heap.size ≤ X.heap.size) =>
      show Calls Tryd.prog 17 #[.iface 50 (.pointer (some ⟨y1.heap.size, 0, none⟩)), .iface 26 (.pointer (some ⟨b', 0, none⟩)), trV t A c] X (DoPost ((scA y1.heap.size y1.heap.size (x6.ans, x6.heard)).sep (lineA y1.heap.size b' x6.flt)) (fun k => k = y1.heap.size ∨ G k) X (res, out) x6.sent) from by
        have hwX : Below w.heap.size w X := (hb1.trans (ha2.mono hb1.size)).trans (hb.mono (by rw [hs2]; have := hb1.size; omega))
        have h0 : ((scA y1.heap.size y1.heap.size (l, [])).sep (lineA y1.heap.size b' fs)).holds (fun k => k = y1.heap.size ∨ G k) X := ⟨fun k => k = y1.heap.size, G, (scA _ _ _).loc hS2 hb.size fun k hk => hb.block k (by rw [hs2]; omega), hG, fun k hk hg => by have := hge k hg; omega, fun _ => Iff.rfl⟩
        have := do_any (D := scA y1.heap.size y1.heap.size) (W := lineA y1.heap.size b') (.inr ⟨_, _, rfl⟩) (.inr ⟨_, _, rfl⟩) (fault_line _ _) (fun bb => sc_askC (fault_line _ _) bb (by have := hb1.size; omega)) (askR_len _ _) (sc_askJ _) (by have := hb1.size; omega) X (l, []) (show 0 ≤ 0 from Nat.le_refl _) fs _ h0 t Hok.out A c ((Hr.out.keep (w' := X) fun k hk => hwX.block k hk).mono fun k hk hf => by have := hb1.size; exact hf.elim (fun e => by omega) (fun h => by have := hge k h; omega)) hNX (HL.out.belowN hwX hLN)
        rw [hR] at this
        exact this
    have Hb1 := Lib.hid hb1
    have Hlen := Lib.hid hlen
    have Hsp := Lib.hid hsp
    have Ham := Lib.hid Ham
    have H6 := Lib.hid h6
    have Hfl := Lib.hid hfl
    have Hxl := Lib.hid hxl
    have Hfs := Lib.hid hfs
    have Ha2 := Lib.hid ha2
    have hsz := Lib.hid hs2
    have hN2 := Lib.hid hN2
    have He := Lib.hid he
    clear hsp hb1 hr1 hlen h6 hR hfl hxl hfs ha2 hs2 hS2 k2 hd he
    go_wp2
    generalize y1.alloc (.cells #[.slice A' l.length c', .slice none 0 0] 53) = y2 at KW KSP Ha2 hsz ⊢
    obtain ⟨N, hN⟩ : ∃ N, y1.heap.size = N := ⟨_, rfl⟩
    rw [hN] at KSP Ha2 hsz hN2 ⊢
    obtain ⟨s', hs'⟩ : ∃ s', (x6.ans, x6.heard) = s' := ⟨_, rfl⟩
    rw [hs'] at KSP
    have KS := KSP
    have HN1 := Lib.hid hN
    have Hs' := Lib.hid hs'
    clear KSP hN hs' c6 e0 e1 hcv
    refine region_inv (fun a₀ act y => ∃ (g7 : Nat) (A1 : Option Addr) (c1 : Nat) (A2 : Option Addr) (c2 : Nat) (FD F : Nat → Prop) (v32 v33 v34 v35 v36 v37 v38 v39 v40 v41 v42 : Value),
      act = { tmps := #[trV t A c, .agg #[.slice A' l.length c', .slice B xs.length cb], .pointer (some ⟨w.heap.size, 0, none⟩), .pointer (some ⟨w.heap.size + 1, 0, none⟩), .bool false, .string ⟨t.data.toArray⟩, .pointer (some ⟨N, 0, none⟩), .pointer (some ⟨g7, 0, none⟩), .slice A2 x6.sent.length c2, undef, undef, undef,
        .pointer (some ⟨w.heap.size, 6, none⟩), .slice A t.data.length c, .int .i64 t.data.length, .bool false, .bool false, .agg #[.slice A' l.length c', .slice B xs.length cb], .bool true, .bool false, .bool false, trV t A c, .int .i64 0, .bool false, undef, .pointer (some ⟨w.heap.size, 6, none⟩), .slice A t.data.length c, .string ⟨t.data.toArray⟩, .pointer (some ⟨w.heap.size + 1, 0, none⟩), .slice A' l.length c', .agg #[.slice A' l.length c', .slice none 0 0], .pointer (some ⟨N, 0, none⟩), v32, v33, v34, v35, v36, v37, v38, v39, v40, v41, v42, undef, undef, undef, undef, undef, undef, undef, undef, undef, undef, undef, undef, undef, undef, undef, undef, undef, undef, undef, undef, undef, undef, undef, undef, undef, undef, undef, undef, undef, undef, undef, undef, undef, undef, undef, undef, undef, undef, undef, undef, undef, undef, undef, undef, undef, undef, undef, undef, undef, undef, undef, undef, undef, undef, undef, undef, undef, undef, undef, undef, undef, undef, undef, undef, undef, undef, undef, undef, undef, undef, undef], defers := [] } ∧
      y.heap[g7]? = some (.cells #[.int .u8 (res : Int), .slice A1 out.length c1] 56) ∧ RdU (fun k => (N < k ∧ ¬ F k) ∧ k ≠ g7) y A1 c1 out ∧ RdL laySn F y A2 c2 x6.sent ∧ ¬ F g7 ∧ (∀ k, F k → N < k) ∧ (scA N N s').holds FD y ∧ Below N y2 y ∧ N < y.heap.size ∧ g7 < y.heap.size ∧ N < g7) ?_ ?_
    · refine startTP (S := fun a => a.block = w.heap.size ∨ a.block = w.heap.size + 1) (T := [12]) (fun X => Below y2.heap.size y2 X) 14 (by kernel_rfl) rfl (l := #[false, false, false, false, false, false, false, false, false, false, false, false, false, false]) rfl (Below.refl _ _).drew ?_
      rintro x0 hb
      have hk : ∀ k, k < N → x0.heap[k]? = y1.heap[k]? := fun k hk => (hb.block k (by have := hsz.out; omega)).trans (Ha2.out.block k hk)
      have d1 := range_of ((hk _ (by have := hN2.out; omega)).trans B01.out)
      have d2 := block_at ((hk _ hN2.out).trans B11.out) (i := 1) (v := .slice B xs.length cb) rfl
      replace hb := Lib.hid hb
      have hNX := Lib.hid (show N ≤ x0.heap.size by have := hb.out.size; have := hsz.out; omega)
      clear hk
      ((first | (refine takeT 0 (v := ?_) rfl (by decide +kernel) (by decide +kernel) (by decide +kernel) (fun _ _ _ h => h) (by decide +kernel) (Or.inl ⟨by rfl, ?_⟩) ?_; rotate_left 1; (focus (intro W hW; have hcW := hW.at; (try dsimp only at hcW); go_simp; first | done | with_reducible rfl)); try simp only [Act.put, List.setIfInBounds_toArray, List.set_cons_zero, List.set_cons_succ]) | (refine takeW 0 (v := ?_) rfl (by decide +kernel) (by decide +kernel) (by decide +kernel) (fun _ _ _ h => h) (Or.inl ⟨by rfl, ?_⟩) ?_; rotate_left 1; (focus (intro W hW; go_simp; first | done | with_reducible rfl)); try simp only [Act.put, List.setIfInBounds_toArray, List.set_cons_zero, List.set_cons_succ]) | (refine takeW 0 rfl (by decide +kernel) (by decide +kernel) (by decide +kernel) (fun _ _ _ h => h) (Or.inr ⟨by rfl, rfl⟩) ?_; try simp only [Act.put, List.setIfInBounds_toArray, List.set_cons_zero, List.set_cons_succ]) | skip); (first | (refine takeT 1 (v := ?_) rfl (by decide +kernel) (by decide +kernel) (by decide +kernel) (fun _ _ _ h => h) (by decide +kernel) (Or.inl ⟨by rfl, ?_⟩) ?_; rotate_left 1; (focus (intro W hW; have hcW := hW.at; (try dsimp only at hcW); go_simp; first | done | with_reducible rfl)); try simp only [Act.put, List.setIfInBounds_toArray, List.set_cons_zero, List.set_cons_succ]) | (refine takeW 1 (v := ?_) rfl (by decide +kernel) (by decide +kernel) (by decide +kernel) (fun _ _ _ h => h) (Or.inl ⟨by rfl, ?_⟩) ?_; rotate_left 1; (focus (intro W hW; go_simp; first | done | with_reducible rfl)); try simp only [Act.put, List.setIfInBounds_toArray, List.set_cons_zero, List.set_cons_succ]) | (refine takeW 1 rfl (by decide +kernel) (by decide +kernel) (by decide +kernel) (fun _ _ _ h => h) (Or.inr ⟨by rfl, rfl⟩) ?_; try simp only [Act.put, List.setIfInBounds_toArray, List.set_cons_zero, List.set_cons_succ]) | skip); (first | (refine takeT 2 (v := ?_) rfl (by decide +kernel) (by decide +kernel) (by decide +kernel) (fun _ _ _ h => h) (by decide +kernel) (Or.inl ⟨by rfl, ?_⟩) ?_; rotate_left 1; (focus (intro W hW; have hcW := hW.at; (try dsimp only at hcW); go_simp; first | done | with_reducible rfl)); try simp only [Act.put, List.setIfInBounds_toArray, List.set_cons_zero, List.set_cons_succ]) | (refine takeW 2 (v := ?_) rfl (by decide +kernel) (by decide +kernel) (by decide +kernel) (fun _ _ _ h => h) (Or.inl ⟨by rfl, ?_⟩) ?_; rotate_left 1; (focus (intro W hW; go_simp; first | done | with_reducible rfl)); try simp only [Act.put, List.setIfInBounds_toArray, List.set_cons_zero, List.set_cons_succ]) | (refine takeW 2 rfl (by decide +kernel) (by decide +kernel) (by decide +kernel) (fun _ _ _ h => h) (Or.inr ⟨by rfl, rfl⟩) ?_; try simp only [Act.put, List.setIfInBounds_toArray, List.set_cons_zero, List.set_cons_succ]) | skip); (first | (refine takeT 3 (v := ?_) rfl (by decide +kernel) (by decide +kernel) (by decide +kernel) (fun _ _ _ h => h) (by decide +kernel) (Or.inl ⟨by rfl, ?_⟩) ?_; rotate_left 1; (focus (intro W hW; have hcW := hW.at; (try dsimp only at hcW); go_simp; first | done | with_reducible rfl)); try simp only [Act.put, List.setIfInBounds_toArray, List.set_cons_zero, List.set_cons_succ]) | (refine takeW 3 (v := ?_) rfl (by decide +kernel) (by decide +kernel) (by decide +kernel) (fun _ _ _ h => h) (Or.inl ⟨by rfl, ?_⟩) ?_; rotate_left 1; (focus (intro W hW; go_simp; first | done | with_reducible rfl)); try simp only [Act.put, List.setIfInBounds_toArray, List.set_cons_zero, List.set_cons_succ]) | (refine takeW 3 rfl (by decide +kernel) (by decide +kernel) (by decide +kernel) (fun _ _ _ h => h) (Or.inr ⟨by rfl, rfl⟩) ?_; try simp only [Act.put, List.setIfInBounds_toArray, List.set_cons_zero, List.set_cons_succ]) | skip))
      clear d2
      refine takeT 6 (v := trV t A c) rfl (by decide +kernel) (by decide +kernel) (by decide +kernel) (fun _ _ _ h => h) (by decide +kernel) (yieldsIf_load_mid (by rfl) _ (.tmp 2) rfl w.heap.size 0 rfl (trL t A c).toList _ (fun W hW => range_sm hW (fun j => .inl rfl) d1) Tryd.underlying45 rfl (by kernel_rfl)) ?_
      try simp only [Act.put, List.setIfInBounds_toArray, List.set_cons_zero, List.set_cons_succ]
      clear d1
      refine stepTA [4, 11] (by decide +kernel) (by decide) ?_
      intro i hi
      rcases (by simpa using hi : i = 4 ∨ i = 11) with rfl | rfl
      · clear hi
        refine ⟨_, rfl, by rfl, ?_⟩
        intro K hK
        go_simp
        refine (KW.out x0 hb.out).mono ?_
        rintro e u1 ⟨b', G, rfl, hG, bb⟩
        have sm := smBlk (b1 := w.heap.size) (b2 := w.heap.size + 1) bb (by have := hb.out.size; have := hsz.out; have := hN2.out; omega) (by have := hb.out.size; have := hsz.out; have := hN2.out; omega)
        have hge := Lib.hid (show ∀ k, G k → N < k from fun k hk => by have := (hG.2.2 k hk).1; have := hb.out.size; have := hsz.out; omega)
        replace hb := Lib.hid (hb.out.trans (bb.mono hb.out.size))
        replace hG := Lib.hid (lineA_base (N := N) hG hNX.out)
        replace hNX := Lib.hid (Nat.le_trans hNX.out bb.size)
        refine hK _ _ (.inr sm) ?_
        clear hK K sm bb
        try simp only [Act.put, List.setIfInBounds_toArray, List.set_cons_zero, List.set_cons_succ]
        ((first | (refine takeT 5 (v := ?_) rfl (by decide +kernel) (by decide +kernel) (by decide +kernel) (fun _ _ _ h => h) (by decide +kernel) (Or.inl ⟨by rfl, ?_⟩) ?_; rotate_left 1; (focus (intro W hW; have hcW := hW.at; (try dsimp only at hcW); go_simp; first | done | with_reducible rfl)); try simp only [Act.put, List.setIfInBounds_toArray, List.set_cons_zero, List.set_cons_succ]) | (refine takeW 5 (v := ?_) rfl (by decide +kernel) (by decide +kernel) (by decide +kernel) (fun _ _ _ h => h) (Or.inl ⟨by rfl, ?_⟩) ?_; rotate_left 1; (focus (intro W hW; go_simp; first | done | with_reducible rfl)); try simp only [Act.put, List.setIfInBounds_toArray, List.set_cons_zero, List.set_cons_succ]) | (refine takeW 5 rfl (by decide +kernel) (by decide +kernel) (by decide +kernel) (fun _ _ _ h => h) (Or.inr ⟨by rfl, rfl⟩) ?_; try simp only [Act.put, List.setIfInBounds_toArray, List.set_cons_zero, List.set_cons_succ]) | skip))
        refine stepTA [7, 11] (by decide +kernel) (by decide) ?_
        intro i hi
        rcases (by simpa using hi : i = 7 ∨ i = 11) with rfl | rfl
        · clear hi
          refine ⟨_, rfl, by rfl, ?_⟩
          intro K hK
          go_simp
          have hb0 := hb
          refine (KS.out u1 b' G hG.out hge.out hb.out hNX.out).mono ?_
          rintro e u2 ⟨A1, c1, A2, c2, S1, F, rfl, hr, hl, hF, hd, hm, hFn⟩
          have sm : Sm (fun a => a.block = w.heap.size ∨ a.block = w.heap.size + 1) u1 u2 := fun a ha => World.cell?_of_block (hm.keep _ (by have := hb.out.size; have := hsz.out; have := hN2.out; rcases ha with h | h <;> omega) (fun hs => hs.elim (fun e => by have := hN2.out; rcases ha with h | h <;> omega) (fun hf => by have := hge.out _ hf; have := hN2.out; rcases ha with h | h <;> omega)))
          obtain ⟨FD, FW, hd, _, _, hS1⟩ := hd
          have hFN := Lib.hid (show ∀ k, F k → N < k from fun k hk => by have h1 := hF k hk; have : k ≠ N := fun e => h1.1 ((hS1 k).2 (.inl (by rw [e]; exact hd.2.2.1))); omega)
          replace hr := Lib.hid (hr.lt.mono (G := fun k => (N < k ∧ ¬ F k) ∧ k < u2.heap.size) fun k hk => ⟨⟨by have := hb.out.size; have := hsz.out; have := hk.1.2.2; omega, hk.1.2.1⟩, hk.2⟩)
          replace hl := Lib.hid hl
          have hFl := Lib.hid (show ∀ k, F k → k < u2.heap.size from fun k hk => (hF k hk).2.2)
          replace hb := Lib.hid ((hb.out.mono (by have := hsz.out; omega)).trans (hm.belowN (N := N) (fun k hk => hk.elim (fun e => Nat.le_of_eq e.symm) (fun h => Nat.le_of_lt (hge.out k h))) hNX.out))
          replace hNX := Lib.hid (show N < u2.heap.size from Nat.lt_of_lt_of_le (by have := hb0.out.size; have := hsz.out; omega) hm.size)
          replace hd := Lib.hid hd
          refine hK _ _ (.inr sm) ?_
          clear hK K sm hm hF hFn hS1 hG hge
          try simp only [Act.put, List.setIfInBounds_toArray, List.set_cons_zero, List.set_cons_succ]
          clear hb0
          ((first | (refine takeT 8 (v := ?_) rfl (by decide +kernel) (by decide +kernel) (by decide +kernel) (fun _ _ _ h => h) (by decide +kernel) (Or.inl ⟨by rfl, ?_⟩) ?_; rotate_left 1; (focus (intro W hW; have hcW := hW.at; (try dsimp only at hcW); go_simp; first | done | with_reducible rfl)); try simp only [Act.put, List.setIfInBounds_toArray, List.set_cons_zero, List.set_cons_succ]) | (refine takeW 8 (v := ?_) rfl (by decide +kernel) (by decide +kernel) (by decide +kernel) (fun _ _ _ h => h) (Or.inl ⟨by rfl, ?_⟩) ?_; rotate_left 1; (focus (intro W hW; go_simp; first | done | with_reducible rfl)); try simp only [Act.put, List.setIfInBounds_toArray, List.set_cons_zero, List.set_cons_succ]) | (refine takeW 8 rfl (by decide +kernel) (by decide +kernel) (by decide +kernel) (fun _ _ _ h => h) (Or.inr ⟨by rfl, rfl⟩) ?_; try simp only [Act.put, List.setIfInBounds_toArray, List.set_cons_zero, List.set_cons_succ]) | skip); (first | (refine takeT 9 (v := ?_) rfl (by decide +kernel) (by decide +kernel) (by decide +kernel) (fun _ _ _ h => h) (by decide +kernel) (Or.inl ⟨by rfl, ?_⟩) ?_; rotate_left 1; (focus (intro W hW; have hcW := hW.at; (try dsimp only at hcW); go_simp; first | done | with_reducible rfl)); try simp only [Act.put, List.setIfInBounds_toArray, List.set_cons_zero, List.set_cons_succ]) | (refine takeW 9 (v := ?_) rfl (by decide +kernel) (by decide +kernel) (by decide +kernel) (fun _ _ _ h => h) (Or.inl ⟨by rfl, ?_⟩) ?_; rotate_left 1; (focus (intro W hW; go_simp; first | done | with_reducible rfl)); try simp only [Act.put, List.setIfInBounds_toArray, List.set_cons_zero, List.set_cons_succ]) | (refine takeW 9 rfl (by decide +kernel) (by decide +kernel) (by decide +kernel) (fun _ _ _ h => h) (Or.inr ⟨by rfl, rfl⟩) ?_; try simp only [Act.put, List.setIfInBounds_toArray, List.set_cons_zero, List.set_cons_succ]) | skip); (first | (refine takeT 10 (v := ?_) rfl (by decide +kernel) (by decide +kernel) (by decide +kernel) (fun _ _ _ h => h) (by decide +kernel) (Or.inl ⟨by rfl, ?_⟩) ?_; rotate_left 1; (focus (intro W hW; have hcW := hW.at; (try dsimp only at hcW); go_simp; first | done | with_reducible rfl)); try simp only [Act.put, List.setIfInBounds_toArray, List.set_cons_zero, List.set_cons_succ]) | (refine takeW 10 (v := ?_) rfl (by decide +kernel) (by decide +kernel) (by decide +kernel) (fun _ _ _ h => h) (Or.inl ⟨by rfl, ?_⟩) ?_; rotate_left 1; (focus (intro W hW; go_simp; first | done | with_reducible rfl)); try simp only [Act.put, List.setIfInBounds_toArray, List.set_cons_zero, List.set_cons_succ]) | (refine takeW 10 rfl (by decide +kernel) (by decide +kernel) (by decide +kernel) (fun _ _ _ h => h) (Or.inr ⟨by rfl, rfl⟩) ?_; try simp only [Act.put, List.setIfInBounds_toArray, List.set_cons_zero, List.set_cons_succ]) | skip))
          refine stepTA [11] (by decide +kernel) (by decide) ?_
          intro i hi
          obtain rfl : i = 11 := by simpa using hi
          clear hi
          refine ⟨_, rfl, by rfl, ?_⟩
          intro K hK
          go_simp
          have bb := (Below.refl u2.heap.size u2).alloc (Nat.le_refl _) (.cells #[.int .u8 0, .slice none 0 0] 56)
          have sm := smBlk (b1 := w.heap.size) (b2 := w.heap.size + 1) bb (by have := hNX.out; have := hN2.out; omega) (by have := hNX.out; have := hN2.out; omega)
          have b7 := Lib.hid (alloc1 u2 (.cells #[.int .u8 0, .slice none 0 0] 56))
          have q7 := Lib.hid (show N < u2.heap.size from hNX.out)
          replace hr := Lib.hid ((hr.out.below bb).mono (G := fun k => (N < k ∧ ¬ F k) ∧ k ≠ u2.heap.size) fun k hk => ⟨hk.1, by omega⟩)
          replace hl := Lib.hid (hl.out.below bb (by decide))
          have nFg := Lib.hid (show ¬ F u2.heap.size from fun hf => by have := hFl.out _ hf; omega)
          have nF := Lib.hid (show ¬ FD u2.heap.size from fun hf => by have := ((scA N N s').ge hd.out _ hf).2; omega)
          replace hd := Lib.hid (Asr.below hd.out bb (Nat.le_of_lt hNX.out))
          replace hb := Lib.hid (hb.out.trans (bb.mono (Nat.le_of_lt hNX.out)))
          clear hFl
          replace hNX := Lib.hid (Nat.lt_of_lt_of_le hNX.out bb.size)
          refine hK _ _ (.inr sm) ?_
          clear hK K sm bb
          try simp only [Act.put, List.setIfInBounds_toArray, List.set_cons_zero, List.set_cons_succ]
          generalize u2.alloc (.cells #[.int .u8 0, .slice none 0 0] 56) = u3 at b7 q7 hNX hb hr hl nF nFg hd ⊢
          generalize u2.heap.size = g7 at b7 q7 hNX hb hr hl nF nFg hd ⊢
          ((first | (refine takeT 8 (v := ?_) rfl (by decide +kernel) (by decide +kernel) (by decide +kernel) (fun _ _ _ h => h) (by decide +kernel) (Or.inl ⟨by rfl, ?_⟩) ?_; rotate_left 1; (focus (intro W hW; have hcW := hW.at; (try dsimp only at hcW); go_simp; first | done | with_reducible rfl)); try simp only [Act.put, List.setIfInBounds_toArray, List.set_cons_zero, List.set_cons_succ]) | (refine takeW 8 (v := ?_) rfl (by decide +kernel) (by decide +kernel) (by decide +kernel) (fun _ _ _ h => h) (Or.inl ⟨by rfl, ?_⟩) ?_; rotate_left 1; (focus (intro W hW; go_simp; first | done | with_reducible rfl)); try simp only [Act.put, List.setIfInBounds_toArray, List.set_cons_zero, List.set_cons_succ]) | (refine takeW 8 rfl (by decide +kernel) (by decide +kernel) (by decide +kernel) (fun _ _ _ h => h) (Or.inr ⟨by rfl, rfl⟩) ?_; try simp only [Act.put, List.setIfInBounds_toArray, List.set_cons_zero, List.set_cons_succ]) | skip); (first | (refine takeT 9 (v := ?_) rfl (by decide +kernel) (by decide +kernel) (by decide +kernel) (fun _ _ _ h => h) (by decide +kernel) (Or.inl ⟨by rfl, ?_⟩) ?_; rotate_left 1; (focus (intro W hW; have hcW := hW.at; (try dsimp only at hcW); go_simp; first | done | with_reducible rfl)); try simp only [Act.put, List.setIfInBounds_toArray, List.set_cons_zero, List.set_cons_succ]) | (refine takeW 9 (v := ?_) rfl (by decide +kernel) (by decide +kernel) (by decide +kernel) (fun _ _ _ h => h) (Or.inl ⟨by rfl, ?_⟩) ?_; rotate_left 1; (focus (intro W hW; go_simp; first | done | with_reducible rfl)); try simp only [Act.put, List.setIfInBounds_toArray, List.set_cons_zero, List.set_cons_succ]) | (refine takeW 9 rfl (by decide +kernel) (by decide +kernel) (by decide +kernel) (fun _ _ _ h => h) (Or.inr ⟨by rfl, rfl⟩) ?_; try simp only [Act.put, List.setIfInBounds_toArray, List.set_cons_zero, List.set_cons_succ]) | skip); (first | (refine takeT 10 (v := ?_) rfl (by decide +kernel) (by decide +kernel) (by decide +kernel) (fun _ _ _ h => h) (by decide +kernel) (Or.inl ⟨by rfl, ?_⟩) ?_; rotate_left 1; (focus (intro W hW; have hcW := hW.at; (try dsimp only at hcW); go_simp; first | done | with_reducible rfl)); try simp only [Act.put, List.setIfInBounds_toArray, List.set_cons_zero, List.set_cons_succ]) | (refine takeW 10 (v := ?_) rfl (by decide +kernel) (by decide +kernel) (by decide +kernel) (fun _ _ _ h => h) (Or.inl ⟨by rfl, ?_⟩) ?_; rotate_left 1; (focus (intro W hW; go_simp; first | done | with_reducible rfl)); try simp only [Act.put, List.setIfInBounds_toArray, List.set_cons_zero, List.set_cons_succ]) | (refine takeW 10 rfl (by decide +kernel) (by decide +kernel) (by decide +kernel) (fun _ _ _ h => h) (Or.inr ⟨by rfl, rfl⟩) ?_; try simp only [Act.put, List.setIfInBounds_toArray, List.set_cons_zero, List.set_cons_succ]) | skip))
          refine stepT 12 rfl (by decide +kernel) (by rfl) ?_
          intro K hK
          refine wp_storeB flatOut (.tmp 7) (.tmp 41) rfl g7 rfl _ rfl b7.out rfl rfl rfl ?_
          intro y k7 hg7 hs7
          refine hK _ _ (.inl (by decide)) ?_
          clear hK K
          try simp only [Act.put, List.setIfInBounds_toArray, List.set_cons_zero, List.set_cons_succ]
          ((first | (refine takeT 13 (v := ?_) rfl (by decide +kernel) (by decide +kernel) (by decide +kernel) (fun _ _ _ h => h) (by decide +kernel) (Or.inl ⟨by rfl, ?_⟩) ?_; rotate_left 1; (focus (intro W hW; have hcW := hW.at; (try dsimp only at hcW); go_simp; first | done | with_reducible rfl)); try simp only [Act.put, List.setIfInBounds_toArray, List.set_cons_zero, List.set_cons_succ]) | (refine takeW 13 (v := ?_) rfl (by decide +kernel) (by decide +kernel) (by decide +kernel) (fun _ _ _ h => h) (Or.inl ⟨by rfl, ?_⟩) ?_; rotate_left 1; (focus (intro W hW; go_simp; first | done | with_reducible rfl)); try simp only [Act.put, List.setIfInBounds_toArray, List.set_cons_zero, List.set_cons_succ]) | (refine takeW 13 rfl (by decide +kernel) (by decide +kernel) (by decide +kernel) (fun _ _ _ h => h) (Or.inr ⟨by rfl, rfl⟩) ?_; try simp only [Act.put, List.setIfInBounds_toArray, List.set_cons_zero, List.set_cons_succ]) | skip))
          refine doneT (by kernel_rfl) ?_
          refine ⟨g7, A1, c1, A2, c2, FD, F, _, _, _, _, _, _, _, _, _, _, _, rfl, k7, ?_⟩
          have q := q7.out
          exact ⟨hr.out.grown hg7 fun k hk => hk.2, hl.out.grown hg7 (fun k hk e => nFg.out (by rw [← e]; exact hk)) (by decide), nFg.out, hFN.out, Asr.grown hd.out hg7 nF.out (by omega) (Nat.le_of_lt hNX.out), below_grown hb.out hg7 (Nat.le_of_lt hNX.out) (by omega), by rw [hs7]; exact hNX.out, by rw [hs7]; exact block_lt b7.out, q⟩
        · clear hi
          refine ⟨_, rfl, by rfl, ?_⟩
          intro K hK
          go_simp
          have bb := (Below.refl u1.heap.size u1).alloc (Nat.le_refl _) (.cells #[.int .u8 0, .slice none 0 0] 56)
          have sm := smBlk (b1 := w.heap.size) (b2 := w.heap.size + 1) bb (by have := hb.out.size; have := hsz.out; have := hN2.out; omega) (by have := hb.out.size; have := hsz.out; have := hN2.out; omega)
          have b7 := Lib.hid (alloc1 u1 (.cells #[.int .u8 0, .slice none 0 0] 56))
          have q7 := Lib.hid (show N < u1.heap.size from by have := hb.out.size; have := hsz.out; omega)
          have n7 := Lib.hid (show ¬ G u1.heap.size from fun hf => by have := (hG.out.2.2 _ hf).2; omega)
          replace hG := Lib.hid (Asr.below hG.out bb hNX.out)
          replace hb := Lib.hid (hb.out.trans (bb.mono hb.out.size))
          replace hNX := Lib.hid (Nat.le_trans hNX.out bb.size)
          refine hK _ _ (.inr sm) ?_
          clear hK K sm bb
          try simp only [Act.put, List.setIfInBounds_toArray, List.set_cons_zero, List.set_cons_succ]
          generalize u1.alloc (.cells #[.int .u8 0, .slice none 0 0] 56) = u4 at b7 q7 hNX hb n7 hG ⊢
          generalize u1.heap.size = g7 at b7 q7 hNX hb n7 hG ⊢
          refine stepTA [7] (by decide +kernel) (by decide) ?_
          intro i hi
          obtain rfl : i = 7 := by simpa using hi
          clear hi
          refine ⟨_, rfl, by rfl, ?_⟩
          intro K hK
          go_simp
          have hb0 := hb
          refine (KS.out u4 b' G hG.out hge.out hb.out hNX.out).mono ?_
          rintro e u5 ⟨A1, c1, A2, c2, S1, F, rfl, hr, hl, hF, hd, hm, hFn⟩
          have sm : Sm (fun a => a.block = w.heap.size ∨ a.block = w.heap.size + 1) u4 u5 := fun a ha => World.cell?_of_block (hm.keep _ (by have := hb.out.size; have := hsz.out; have := hN2.out; rcases ha with h | h <;> omega) (fun hs => hs.elim (fun e => by have := hN2.out; rcases ha with h | h <;> omega) (fun hf => by have := hge.out _ hf; have := hN2.out; rcases ha with h | h <;> omega)))
          obtain ⟨FD, FW, hd, _, _, hS1⟩ := hd
          have hFN := Lib.hid (show ∀ k, F k → N < k from fun k hk => by have h1 := hF k hk; have : k ≠ N := fun e => h1.1 ((hS1 k).2 (.inl (by rw [e]; exact hd.2.2.1))); omega)
          have m7 := hm.box ⟨b7.out, show ¬ (g7 = N ∨ G g7) from fun hs => hs.elim (fun e => by have := q7.out; omega) n7.out⟩
          have nF := Lib.hid (show ¬ FD g7 from fun hf => m7.2 ((hS1 _).2 (.inl hf)))
          replace hr := Lib.hid (hr.mono (G := fun k => (N < k ∧ ¬ F k) ∧ k ≠ g7) fun k hk => ⟨⟨by have := hb.out.size; have := hsz.out; have := hk.2.2; omega, hk.2.1⟩, fun e => by have := block_lt b7.out; have := hk.2.2; omega⟩)
          have nFg := Lib.hid (show ¬ F g7 from fun hk => (hFn _ hk).elim (fun hs => hs.elim (fun e => by have := q7.out; omega) n7.out) (fun h => by have := block_lt b7.out; omega))
          replace hl := Lib.hid hl
          replace b7 := Lib.hid m7.1
          clear m7 n7
          replace hb := Lib.hid ((hb.out.mono (by have := hsz.out; omega)).trans (hm.belowN (N := N) (fun k hk => hk.elim (fun e => Nat.le_of_eq e.symm) (fun h => Nat.le_of_lt (hge.out k h))) hNX.out))
          replace hNX := Lib.hid (show N < u5.heap.size from Nat.lt_of_lt_of_le (by have := hb0.out.size; have := hsz.out; omega) hm.size)
          replace hd := Lib.hid hd
          refine hK _ _ (.inr sm) ?_
          clear hK K sm hm hF hFn hS1 hG hge
          try simp only [Act.put, List.setIfInBounds_toArray, List.set_cons_zero, List.set_cons_succ]
          clear hb0
          ((first | (refine takeT 8 (v := ?_) rfl (by decide +kernel) (by decide +kernel) (by decide +kernel) (fun _ _ _ h => h) (by decide +kernel) (Or.inl ⟨by rfl, ?_⟩) ?_; rotate_left 1; (focus (intro W hW; have hcW := hW.at; (try dsimp only at hcW); go_simp; first | done | with_reducible rfl)); try simp only [Act.put, List.setIfInBounds_toArray, List.set_cons_zero, List.set_cons_succ]) | (refine takeW 8 (v := ?_) rfl (by decide +kernel) (by decide +kernel) (by decide +kernel) (fun _ _ _ h => h) (Or.inl ⟨by rfl, ?_⟩) ?_; rotate_left 1; (focus (intro W hW; go_simp; first | done | with_reducible rfl)); try simp only [Act.put, List.setIfInBounds_toArray, List.set_cons_zero, List.set_cons_succ]) | (refine takeW 8 rfl (by decide +kernel) (by decide +kernel) (by decide +kernel) (fun _ _ _ h => h) (Or.inr ⟨by rfl, rfl⟩) ?_; try simp only [Act.put, List.setIfInBounds_toArray, List.set_cons_zero, List.set_cons_succ]) | skip); (first | (refine takeT 9 (v := ?_) rfl (by decide +kernel) (by decide +kernel) (by decide +kernel) (fun _ _ _ h => h) (by decide +kernel) (Or.inl ⟨by rfl, ?_⟩) ?_; rotate_left 1; (focus (intro W hW; have hcW := hW.at; (try dsimp only at hcW); go_simp; first | done | with_reducible rfl)); try simp only [Act.put, List.setIfInBounds_toArray, List.set_cons_zero, List.set_cons_succ]) | (refine takeW 9 (v := ?_) rfl (by decide +kernel) (by decide +kernel) (by decide +kernel) (fun _ _ _ h => h) (Or.inl ⟨by rfl, ?_⟩) ?_; rotate_left 1; (focus (intro W hW; go_simp; first | done | with_reducible rfl)); try simp only [Act.put, List.setIfInBounds_toArray, List.set_cons_zero, List.set_cons_succ]) | (refine takeW 9 rfl (by decide +kernel) (by decide +kernel) (by decide +kernel) (fun _ _ _ h => h) (Or.inr ⟨by rfl, rfl⟩) ?_; try simp only [Act.put, List.setIfInBounds_toArray, List.set_cons_zero, List.set_cons_succ]) | skip); (first | (refine takeT 10 (v := ?_) rfl (by decide +kernel) (by decide +kernel) (by decide +kernel) (fun _ _ _ h => h) (by decide +kernel) (Or.inl ⟨by rfl, ?_⟩) ?_; rotate_left 1; (focus (intro W hW; have hcW := hW.at; (try dsimp only at hcW); go_simp; first | done | with_reducible rfl)); try simp only [Act.put, List.setIfInBounds_toArray, List.set_cons_zero, List.set_cons_succ]) | (refine takeW 10 (v := ?_) rfl (by decide +kernel) (by decide +kernel) (by decide +kernel) (fun _ _ _ h => h) (Or.inl ⟨by rfl, ?_⟩) ?_; rotate_left 1; (focus (intro W hW; go_simp; first | done | with_reducible rfl)); try simp only [Act.put, List.setIfInBounds_toArray, List.set_cons_zero, List.set_cons_succ]) | (refine takeW 10 rfl (by decide +kernel) (by decide +kernel) (by decide +kernel) (fun _ _ _ h => h) (Or.inr ⟨by rfl, rfl⟩) ?_; try simp only [Act.put, List.setIfInBounds_toArray, List.set_cons_zero, List.set_cons_succ]) | skip))
          refine stepT 12 rfl (by decide +kernel) (by rfl) ?_
          intro K hK
          refine wp_storeB flatOut (.tmp 7) (.tmp 41) rfl g7 rfl _ rfl b7.out rfl rfl rfl ?_
          intro y k7 hg7 hs7
          refine hK _ _ (.inl (by decide)) ?_
          clear hK K
          try simp only [Act.put, List.setIfInBounds_toArray, List.set_cons_zero, List.set_cons_succ]
          ((first | (refine takeT 13 (v := ?_) rfl (by decide +kernel) (by decide +kernel) (by decide +kernel) (fun _ _ _ h => h) (by decide +kernel) (Or.inl ⟨by rfl, ?_⟩) ?_; rotate_left 1; (focus (intro W hW; have hcW := hW.at; (try dsimp only at hcW); go_simp; first | done | with_reducible rfl)); try simp only [Act.put, List.setIfInBounds_toArray, List.set_cons_zero, List.set_cons_succ]) | (refine takeW 13 (v := ?_) rfl (by decide +kernel) (by decide +kernel) (by decide +kernel) (fun _ _ _ h => h) (Or.inl ⟨by rfl, ?_⟩) ?_; rotate_left 1; (focus (intro W hW; go_simp; first | done | with_reducible rfl)); try simp only [Act.put, List.setIfInBounds_toArray, List.set_cons_zero, List.set_cons_succ]) | (refine takeW 13 rfl (by decide +kernel) (by decide +kernel) (by decide +kernel) (fun _ _ _ h => h) (Or.inr ⟨by rfl, rfl⟩) ?_; try simp only [Act.put, List.setIfInBounds_toArray, List.set_cons_zero, List.set_cons_succ]) | skip))
          refine doneT (by kernel_rfl) ?_
          refine ⟨g7, A1, c1, A2, c2, FD, F, _, _, _, _, _, _, _, _, _, _, _, rfl, k7, ?_⟩
          have q := q7.out
          exact ⟨hr.out.grown hg7 fun k hk => hk.2, hl.out.grown hg7 (fun k hk e => nFg.out (by rw [← e]; exact hk)) (by decide), nFg.out, hFN.out, Asr.grown hd.out hg7 nF.out (by omega) (Nat.le_of_lt hNX.out), below_grown hb.out hg7 (Nat.le_of_lt hNX.out) (by omega), by rw [hs7]; exact hNX.out, by rw [hs7]; exact block_lt b7.out, q⟩
      · clear hi
        refine ⟨_, rfl, by rfl, ?_⟩
        intro K hK
        go_simp
        have bb := (Below.refl x0.heap.size x0).alloc (Nat.le_refl _) (.cells #[.int .u8 0, .slice none 0 0] 56)
        have sm := smBlk (b1 := w.heap.size) (b2 := w.heap.size + 1) bb (by have := hb.out.size; have := hsz.out; have := hN2.out; omega) (by have := hb.out.size; have := hsz.out; have := hN2.out; omega)
        have b7 := Lib.hid (alloc1 x0 (.cells #[.int .u8 0, .slice none 0 0] 56))
        have q7 := Lib.hid (show N < x0.heap.size from by have := hb.out.size; have := hsz.out; omega)
        replace hb := Lib.hid (hb.out.trans (bb.mono hb.out.size))
        replace hNX := Lib.hid (Nat.le_trans hNX.out bb.size)
        refine hK _ _ (.inr sm) ?_
        clear hK K sm bb
        try simp only [Act.put, List.setIfInBounds_toArray, List.set_cons_zero, List.set_cons_succ]
        generalize x0.alloc (.cells #[.int .u8 0, .slice none 0 0] 56) = u6 at b7 q7 hNX hb ⊢
        generalize x0.heap.size = g7 at b7 q7 hNX hb ⊢
        refine stepTA [4] (by decide +kernel) (by decide) ?_
        intro i hi
        obtain rfl : i = 4 := by simpa using hi
        clear hi
        refine ⟨_, rfl, by rfl, ?_⟩
        intro K hK
        go_simp
        refine (KW.out u6 hb.out).mono ?_
        rintro e u7 ⟨b', G, rfl, hG, bb⟩
        have sm := smBlk (b1 := w.heap.size) (b2 := w.heap.size + 1) bb (by have := hb.out.size; have := hsz.out; have := hN2.out; omega) (by have := hb.out.size; have := hsz.out; have := hN2.out; omega)
        have n7 := Lib.hid (show ¬ G g7 from fun hf => by have := (hG.2.2 _ hf).1; have := block_lt b7.out; omega)
        replace b7 := Lib.hid ((bb.block _ (block_lt b7.out)).trans b7.out)
        have hge := Lib.hid (show ∀ k, G k → N < k from fun k hk => by have := (hG.2.2 k hk).1; have := hb.out.size; have := hsz.out; omega)
        replace hb := Lib.hid (hb.out.trans (bb.mono hb.out.size))
        replace hG := Lib.hid (lineA_base (N := N) hG hNX.out)
        replace hNX := Lib.hid (Nat.le_trans hNX.out bb.size)
        refine hK _ _ (.inr sm) ?_
        clear hK K sm bb
        try simp only [Act.put, List.setIfInBounds_toArray, List.set_cons_zero, List.set_cons_succ]
        ((first | (refine takeT 5 (v := ?_) rfl (by decide +kernel) (by decide +kernel) (by decide +kernel) (fun _ _ _ h => h) (by decide +kernel) (Or.inl ⟨by rfl, ?_⟩) ?_; rotate_left 1; (focus (intro W hW; have hcW := hW.at; (try dsimp only at hcW); go_simp; first | done | with_reducible rfl)); try simp only [Act.put, List.setIfInBounds_toArray, List.set_cons_zero, List.set_cons_succ]) | (refine takeW 5 (v := ?_) rfl (by decide +kernel) (by decide +kernel) (by decide +kernel) (fun _ _ _ h => h) (Or.inl ⟨by rfl, ?_⟩) ?_; rotate_left 1; (focus (intro W hW; go_simp; first | done | with_reducible rfl)); try simp only [Act.put, List.setIfInBounds_toArray, List.set_cons_zero, List.set_cons_succ]) | (refine takeW 5 rfl (by decide +kernel) (by decide +kernel) (by decide +kernel) (fun _ _ _ h => h) (Or.inr ⟨by rfl, rfl⟩) ?_; try simp only [Act.put, List.setIfInBounds_toArray, List.set_cons_zero, List.set_cons_succ]) | skip))
        refine stepTA [7] (by decide +kernel) (by decide) ?_
        intro i hi
        obtain rfl : i = 7 := by simpa using hi
        clear hi
        refine ⟨_, rfl, by rfl, ?_⟩
        intro K hK
        go_simp
        have hb0 := hb
        refine (KS.out u7 b' G hG.out hge.out hb.out hNX.out).mono ?_
        rintro e u8 ⟨A1, c1, A2, c2, S1, F, rfl, hr, hl, hF, hd, hm, hFn⟩
        have sm : Sm (fun a => a.block = w.heap.size ∨ a.block = w.heap.size + 1) u7 u8 := fun a ha => World.cell?_of_block (hm.keep _ (by have := hb.out.size; have := hsz.out; have := hN2.out; rcases ha with h | h <;> omega) (fun hs => hs.elim (fun e => by have := hN2.out; rcases ha with h | h <;> omega) (fun hf => by have := hge.out _ hf; have := hN2.out; rcases ha with h | h <;> omega)))
        obtain ⟨FD, FW, hd, _, _, hS1⟩ := hd
        have hFN := Lib.hid (show ∀ k, F k → N < k from fun k hk => by have h1 := hF k hk; have : k ≠ N := fun e => h1.1 ((hS1 k).2 (.inl (by rw [e]; exact hd.2.2.1))); omega)
        have m7 := hm.box ⟨b7.out, show ¬ (g7 = N ∨ G g7) from fun hs => hs.elim (fun e => by have := q7.out; omega) n7.out⟩
        have nF := Lib.hid (show ¬ FD g7 from fun hf => m7.2 ((hS1 _).2 (.inl hf)))
        replace hr := Lib.hid (hr.mono (G := fun k => (N < k ∧ ¬ F k) ∧ k ≠ g7) fun k hk => ⟨⟨by have := hb.out.size; have := hsz.out; have := hk.2.2; omega, hk.2.1⟩, fun e => by have := block_lt b7.out; have := hk.2.2; omega⟩)
        have nFg := Lib.hid (show ¬ F g7 from fun hk => (hFn _ hk).elim (fun hs => hs.elim (fun e => by have := q7.out; omega) n7.out) (fun h => by have := block_lt b7.out; omega))
        replace hl := Lib.hid hl
        replace b7 := Lib.hid m7.1
        clear m7 n7
        replace hb := Lib.hid ((hb.out.mono (by have := hsz.out; omega)).trans (hm.belowN (N := N) (fun k hk => hk.elim (fun e => Nat.le_of_eq e.symm) (fun h => Nat.le_of_lt (hge.out k h))) hNX.out))
        replace hNX := Lib.hid (show N < u8.heap.size from Nat.lt_of_lt_of_le (by have := hb0.out.size; have := hsz.out; omega) hm.size)
        replace hd := Lib.hid hd
        refine hK _ _ (.inr sm) ?_
        clear hK K sm hm hF hFn hS1 hG hge
        try simp only [Act.put, List.setIfInBounds_toArray, List.set_cons_zero, List.set_cons_succ]
        clear hb0
        ((first | (refine takeT 8 (v := ?_) rfl (by decide +kernel) (by decide +kernel) (by decide +kernel) (fun _ _ _ h => h) (by decide +kernel) (Or.inl ⟨by rfl, ?_⟩) ?_; rotate_left 1; (focus (intro W hW; have hcW := hW.at; (try dsimp only at hcW); go_simp; first | done | with_reducible rfl)); try simp only [Act.put, List.setIfInBounds_toArray, List.set_cons_zero, List.set_cons_succ]) | (refine takeW 8 (v := ?_) rfl (by decide +kernel) (by decide +kernel) (by decide +kernel) (fun _ _ _ h => h) (Or.inl ⟨by rfl, ?_⟩) ?_; rotate_left 1; (focus (intro W hW; go_simp; first | done | with_reducible rfl)); try simp only [Act.put, List.setIfInBounds_toArray, List.set_cons_zero, List.set_cons_succ]) | (refine takeW 8 rfl (by decide +kernel) (by decide +kernel) (by decide +kernel) (fun _ _ _ h => h) (Or.inr ⟨by rfl, rfl⟩) ?_; try simp only [Act.put, List.setIfInBounds_toArray, List.set_cons_zero, List.set_cons_succ]) | skip); (first | (refine takeT 9 (v := ?_) rfl (by decide +kernel) (by decide +kernel) (by decide +kernel) (fun _ _ _ h => h) (by decide +kernel) (Or.inl ⟨by rfl, ?_⟩) ?_; rotate_left 1; (focus (intro W hW; have hcW := hW.at; (try dsimp only at hcW); go_simp; first | done | with_reducible rfl)); try simp only [Act.put, List.setIfInBounds_toArray, List.set_cons_zero, List.set_cons_succ]) | (refine takeW 9 (v := ?_) rfl (by decide +kernel) (by decide +kernel) (by decide +kernel) (fun _ _ _ h => h) (Or.inl ⟨by rfl, ?_⟩) ?_; rotate_left 1; (focus (intro W hW; go_simp; first | done | with_reducible rfl)); try simp only [Act.put, List.setIfInBounds_toArray, List.set_cons_zero, List.set_cons_succ]) | (refine takeW 9 rfl (by decide +kernel) (by decide +kernel) (by decide +kernel) (fun _ _ _ h => h) (Or.inr ⟨by rfl, rfl⟩) ?_; try simp only [Act.put, List.setIfInBounds_toArray, List.set_cons_zero, List.set_cons_succ]) | skip); (first | (refine takeT 10 (v := ?_) rfl (by decide +kernel) (by decide +kernel) (by decide +kernel) (fun _ _ _ h => h) (by decide +kernel) (Or.inl ⟨by rfl, ?_⟩) ?_; rotate_left 1; (focus (intro W hW; have hcW := hW.at; (try dsimp only at hcW); go_simp; first | done | with_reducible rfl)); try simp only [Act.put, List.setIfInBounds_toArray, List.set_cons_zero, List.set_cons_succ]) | (refine takeW 10 (v := ?_) rfl (by decide +kernel) (by decide +kernel) (by decide +kernel) (fun _ _ _ h => h) (Or.inl ⟨by rfl, ?_⟩) ?_; rotate_left 1; (focus (intro W hW; go_simp; first | done | with_reducible rfl)); try simp only [Act.put, List.setIfInBounds_toArray, List.set_cons_zero, List.set_cons_succ]) | (refine takeW 10 rfl (by decide +kernel) (by decide +kernel) (by decide +kernel) (fun _ _ _ h => h) (Or.inr ⟨by rfl, rfl⟩) ?_; try simp only [Act.put, List.setIfInBounds_toArray, List.set_cons_zero, List.set_cons_succ]) | skip))
        refine stepT 12 rfl (by decide +kernel) (by rfl) ?_
        intro K hK
        refine wp_storeB flatOut (.tmp 7) (.tmp 41) rfl g7 rfl _ rfl b7.out rfl rfl rfl ?_
        intro y k7 hg7 hs7
        refine hK _ _ (.inl (by decide)) ?_
        clear hK K
        try simp only [Act.put, List.setIfInBounds_toArray, List.set_cons_zero, List.set_cons_succ]
        ((first | (refine takeT 13 (v := ?_) rfl (by decide +kernel) (by decide +kernel) (by decide +kernel) (fun _ _ _ h => h) (by decide +kernel) (Or.inl ⟨by rfl, ?_⟩) ?_; rotate_left 1; (focus (intro W hW; have hcW := hW.at; (try dsimp only at hcW); go_simp; first | done | with_reducible rfl)); try simp only [Act.put, List.setIfInBounds_toArray, List.set_cons_zero, List.set_cons_succ]) | (refine takeW 13 (v := ?_) rfl (by decide +kernel) (by decide +kernel) (by decide +kernel) (fun _ _ _ h => h) (Or.inl ⟨by rfl, ?_⟩) ?_; rotate_left 1; (focus (intro W hW; go_simp; first | done | with_reducible rfl)); try simp only [Act.put, List.setIfInBounds_toArray, List.set_cons_zero, List.set_cons_succ]) | (refine takeW 13 rfl (by decide +kernel) (by decide +kernel) (by decide +kernel) (fun _ _ _ h => h) (Or.inr ⟨by rfl, rfl⟩) ?_; try simp only [Act.put, List.setIfInBounds_toArray, List.set_cons_zero, List.set_cons_succ]) | skip))
        refine doneT (by kernel_rfl) ?_
        refine ⟨g7, A1, c1, A2, c2, FD, F, _, _, _, _, _, _, _, _, _, _, _, rfl, k7, ?_⟩
        have q := q7.out
        exact ⟨hr.out.grown hg7 fun k hk => hk.2, hl.out.grown hg7 (fun k hk e => nFg.out (by rw [← e]; exact hk)) (by decide), nFg.out, hFN.out, Asr.grown hd.out hg7 nF.out (by omega) (Nat.le_of_lt hNX.out), below_grown hb.out hg7 (Nat.le_of_lt hNX.out) (by omega), by rw [hs7]; exact hNX.out, by rw [hs7]; exact block_lt b7.out, q⟩
    · rintro act y ⟨g7, A1, c1, A2, c2, FD, F, v32, v33, v34, v35, v36, v37, v38, v39, v40, v41, v42, rfl, k7, hr7, hl7, hnF7, hFN7, hd7, hb7, hN7, hg7y, hNg7⟩
      have K7 := Lib.hid k7
      have Hr7 := Lib.hid hr7
      have Hl7 := Lib.hid hl7
      have Hd7 := Lib.hid hd7
      have Hb7 := Lib.hid hb7
      have HN7 := Lib.hid hN7
      have HnF7 := Lib.hid hnF7
      have HFN7 := Lib.hid hFN7
      have HNg7 := Lib.hid hNg7
      clear k7 hr7 hl7 hd7 hb7 hN7 KW KS hnF7 hFN7 hg7y hNg7
      have hk : ∀ k, k < N → y.heap[k]? = y1.heap[k]? := fun k hk => (Hb7.out.block k hk).trans (Ha2.out.block k hk)
      have B02 := Lib.hid ((hk _ (by have := hN2.out; omega)).trans B01.out)
      have B12 := Lib.hid ((hk _ hN2.out).trans B11.out)
      have Hw7 := Lib.hid (show Below w.heap.size w y from ⟨Hb7.out.os.trans (Ha2.out.os.trans Hb1.out.os), Hb7.out.tape.trans (Ha2.out.tape.trans Hb1.out.tape), Hb7.out.output.trans (Ha2.out.output.trans Hb1.out.output), by have := HN7.out; have := Hb1.out.size; have := HN1.out; omega, fun k hk0 => (hk k (by have := hN2.out; omega)).trans (Hb1.out.block k hk0)⟩)
      clear hk
      have KF := Lib.hid fun (X : World) (hb : Below y.heap.size y X) => show Calls Tryd.prog 21 #[.slice B xs.length cb] X (ResO X 25 fs) from by
        have hwX := Hw7.out.trans (hb.mono Hw7.out.size)
        have := faults_any X B cb xs ((Hx.out.keep (w' := X) fun k hk => hwX.block k hk).rdT) Hxl.out
        rw [Hfs.out] at this
        exact this
      have KRS := Lib.hid fun (X : World) (M : Nat) (hM : M ≤ X.heap.size) (hyM : y.heap.size ≤ M) (hb : Below y.heap.size y X) (Af : Option Addr) (cf : Nat) (hf : RdS (fun k => k < M) X Af cf fs) => show Calls Tryd.prog 26 #[.agg #[.slice A' l.length c', .slice Af fs.length cf, .slice none 0 0, .slice none 0 0], trV t A c] X (RdoPost ⟨M, w.heap.size⟩ x6 (res, out) (fun _ => False) X) from by
        have hwX := Hw7.out.trans (hb.mono Hw7.out.size)
        have hws := Hw7.out.size
        have := rdo_any X ⟨M, w.heap.size⟩ (.agg #[.slice A' l.length c', .slice Af fs.length cf, .slice none 0 0, .slice none 0 0]) l fs [] (fun _ => False) ⟨A', c', Af, cf, none, 0, none, 0, rfl, (Hla.out.keep (w' := X) fun k hk => hwX.block k hk).mono fun k hk => ⟨hk, Nat.lt_of_lt_of_le hk (Nat.le_trans hws hyM)⟩, hf, OwnB.nil _ _, OwnB.nil _ _, (fun k h => by cases h), (fun k => ⟨False.elim, fun h => by rcases h with h | h <;> cases h⟩)⟩ t Hok.out He.out A c ((Hr.out.keep (w' := X) fun k hk => hwX.block k hk).mono fun k hk => ⟨hk, Nat.lt_of_lt_of_le hk (Nat.le_trans hws hyM)⟩) (Nat.zero_le _) Ham.out hM
        rw [H6.out] at this
        exact this
      have d0 := block_at B12.out (i := 0) (v := .slice A' l.length c') rfl
      go_wp2
      refine region_inv (fun a₀ act z => ∃ (g9 g10 : Nat) (Aa : Option Addr) (ca : Nat) (Af : Option Addr) (cf : Nat) (B2 : Option Addr) (e2 : Nat) (B3 : Option Addr) (e3 : Nat) (B4 : Option Addr) (e4 : Nat) (v43 v44 v45 v46 v47 v48 v49 v50 v51 v52 v53 : Value),
        act = { tmps := #[trV t A c, .agg #[.slice A' l.length c', .slice B xs.length cb], .pointer (some ⟨w.heap.size, 0, none⟩), .pointer (some ⟨w.heap.size + 1, 0, none⟩), .bool false, .string ⟨t.data.toArray⟩, .pointer (some ⟨N, 0, none⟩), .pointer (some ⟨g7, 0, none⟩), .slice A2 x6.sent.length c2, .pointer (some ⟨g9, 0, none⟩), .pointer (some ⟨g10, 0, none⟩), undef,
          .pointer (some ⟨w.heap.size, 6, none⟩), .slice A t.data.length c, .int .i64 t.data.length, .bool false, .bool false, .agg #[.slice A' l.length c', .slice B xs.length cb], .bool true, .bool false, .bool false, trV t A c, .int .i64 0, .bool false, undef, .pointer (some ⟨w.heap.size, 6, none⟩), .slice A t.data.length c, .string ⟨t.data.toArray⟩, .pointer (some ⟨w.heap.size + 1, 0, none⟩), .slice A' l.length c', .agg #[.slice A' l.length c', .slice none 0 0], .pointer (some ⟨N, 0, none⟩), v32, v33, v34, v35, v36, v37, v38, v39, v40, v41, v42, v43, v44, v45, v46, v47, v48, v49, v50, v51, v52, v53, undef, undef, undef, undef, undef, undef, undef, undef, undef, undef, undef, undef, undef, undef, undef, undef, undef, undef, undef, undef, undef, undef, undef, undef, undef, undef, undef, undef, undef, undef, undef, undef, undef, undef, undef, undef, undef, undef, undef, undef, undef, undef, undef, undef, undef, undef, undef, undef, undef, undef, undef, undef, undef, undef, undef, undef, undef, undef, undef, undef], defers := [] } ∧
        z.heap[g9]? = some (.cells #[.slice Aa x6.ans.length ca, .slice Af x6.flt.length cf, .slice B2 x6.heard.length e2, .slice B3 x6.sent.length e3] 67 (0, 0)) ∧ z.heap[g10]? = some (.cells #[.int .u8 (res : Int), .slice B4 out.length e4] 56) ∧ RdS (fun _ => True) z B4 e4 out ∧ RdL layPk (fun _ => True) z B2 e2 x6.heard ∧ RdL laySn (fun k => k < w.heap.size ∨ y.heap.size ≤ k) z B3 e3 x6.sent ∧ Below y.heap.size y z ∧ y.heap.size ≤ g9 ∧ y.heap.size ≤ g10) ?_ ?_
      · refine startTP (S := fun a => a.block = w.heap.size ∨ a.block = w.heap.size + 1) (T := [13, 14]) (fun X => Below y.heap.size y X) 15 (by kernel_rfl) rfl (l := #[false, false, false, false, false, false, false, false, false, false, false, false, false, false, false]) rfl (Below.refl _ _).drew ?_
        rintro x0 hb
        have d1 := range_of ((hb.block _ (block_lt B02.out)).trans B02.out)
        have d2 := block_at ((hb.block _ (block_lt B12.out)).trans B12.out) (i := 1) (v := .slice B xs.length cb) rfl
        have d3 := block_at ((hb.block _ (block_lt B12.out)).trans B12.out) (i := 0) (v := .slice A' l.length c') rfl
        replace hb := Lib.hid hb
        clear d0
        ((first | (refine takeT 0 (v := ?_) rfl (by decide +kernel) (by decide +kernel) (by decide +kernel) (fun _ _ _ h => h) (by decide +kernel) (Or.inl ⟨by rfl, ?_⟩) ?_; rotate_left 1; (focus (intro W hW; have hcW := hW.at; (try dsimp only at hcW); go_simp; first | done | with_reducible rfl)); try simp only [Act.put, List.setIfInBounds_toArray, List.set_cons_zero, List.set_cons_succ]) | (refine takeW 0 (v := ?_) rfl (by decide +kernel) (by decide +kernel) (by decide +kernel) (fun _ _ _ h => h) (Or.inl ⟨by rfl, ?_⟩) ?_; rotate_left 1; (focus (intro W hW; go_simp; first | done | with_reducible rfl)); try simp only [Act.put, List.setIfInBounds_toArray, List.set_cons_zero, List.set_cons_succ]) | (refine takeW 0 rfl (by decide +kernel) (by decide +kernel) (by decide +kernel) (fun _ _ _ h => h) (Or.inr ⟨by rfl, rfl⟩) ?_; try simp only [Act.put, List.setIfInBounds_toArray, List.set_cons_zero, List.set_cons_succ]) | skip); (first | (refine takeT 1 (v := ?_) rfl (by decide +kernel) (by decide +kernel) (by decide +kernel) (fun _ _ _ h => h) (by decide +kernel) (Or.inl ⟨by rfl, ?_⟩) ?_; rotate_left 1; (focus (intro W hW; have hcW := hW.at; (try dsimp only at hcW); go_simp; first | done | with_reducible rfl)); try simp only [Act.put, List.setIfInBounds_toArray, List.set_cons_zero, List.set_cons_succ]) | (refine takeW 1 (v := ?_) rfl (by decide +kernel) (by decide +kernel) (by decide +kernel) (fun _ _ _ h => h) (Or.inl ⟨by rfl, ?_⟩) ?_; rotate_left 1; (focus (intro W hW; go_simp; first | done | with_reducible rfl)); try simp only [Act.put, List.setIfInBounds_toArray, List.set_cons_zero, List.set_cons_succ]) | (refine takeW 1 rfl (by decide +kernel) (by decide +kernel) (by decide +kernel) (fun _ _ _ h => h) (Or.inr ⟨by rfl, rfl⟩) ?_; try simp only [Act.put, List.setIfInBounds_toArray, List.set_cons_zero, List.set_cons_succ]) | skip); (first | (refine takeT 2 (v := ?_) rfl (by decide +kernel) (by decide +kernel) (by decide +kernel) (fun _ _ _ h => h) (by decide +kernel) (Or.inl ⟨by rfl, ?_⟩) ?_; rotate_left 1; (focus (intro W hW; have hcW := hW.at; (try dsimp only at hcW); go_simp; first | done | with_reducible rfl)); try simp only [Act.put, List.setIfInBounds_toArray, List.set_cons_zero, List.set_cons_succ]) | (refine takeW 2 (v := ?_) rfl (by decide +kernel) (by decide +kernel) (by decide +kernel) (fun _ _ _ h => h) (Or.inl ⟨by rfl, ?_⟩) ?_; rotate_left 1; (focus (intro W hW; go_simp; first | done | with_reducible rfl)); try simp only [Act.put, List.setIfInBounds_toArray, List.set_cons_zero, List.set_cons_succ]) | (refine takeW 2 rfl (by decide +kernel) (by decide +kernel) (by decide +kernel) (fun _ _ _ h => h) (Or.inr ⟨by rfl, rfl⟩) ?_; try simp only [Act.put, List.setIfInBounds_toArray, List.set_cons_zero, List.set_cons_succ]) | skip); (first | (refine takeT 3 (v := ?_) rfl (by decide +kernel) (by decide +kernel) (by decide +kernel) (fun _ _ _ h => h) (by decide +kernel) (Or.inl ⟨by rfl, ?_⟩) ?_; rotate_left 1; (focus (intro W hW; have hcW := hW.at; (try dsimp only at hcW); go_simp; first | done | with_reducible rfl)); try simp only [Act.put, List.setIfInBounds_toArray, List.set_cons_zero, List.set_cons_succ]) | (refine takeW 3 (v := ?_) rfl (by decide +kernel) (by decide +kernel) (by decide +kernel) (fun _ _ _ h => h) (Or.inl ⟨by rfl, ?_⟩) ?_; rotate_left 1; (focus (intro W hW; go_simp; first | done | with_reducible rfl)); try simp only [Act.put, List.setIfInBounds_toArray, List.set_cons_zero, List.set_cons_succ]) | (refine takeW 3 rfl (by decide +kernel) (by decide +kernel) (by decide +kernel) (fun _ _ _ h => h) (Or.inr ⟨by rfl, rfl⟩) ?_; try simp only [Act.put, List.setIfInBounds_toArray, List.set_cons_zero, List.set_cons_succ]) | skip))
        clear d2 d3
        refine takeT 6 (v := trV t A c) rfl (by decide +kernel) (by decide +kernel) (by decide +kernel) (fun _ _ _ h => h) (by decide +kernel) (yieldsIf_load_mid (by rfl) _ (.tmp 2) rfl w.heap.size 0 rfl (trL t A c).toList _ (fun W hW => range_sm hW (fun j => .inl rfl) d1) Tryd.underlying45 rfl (by kernel_rfl)) ?_
        try simp only [Act.put, List.setIfInBounds_toArray, List.set_cons_zero, List.set_cons_succ]
        clear d1
        refine stepTA [4, 11, 12] (by decide +kernel) (by decide) ?_
        intro i hi
        rcases (by simpa using hi : i = 4 ∨ i = 11 ∨ i = 12) with rfl | rfl | rfl
        · clear hi
          refine ⟨_, rfl, by rfl, ?_⟩
          intro K hK
          go_simp
          refine (KF.out x0 hb.out).mono ?_
          rintro e u9 ⟨v, rfl, ho, bb⟩
          obtain ⟨Af, cf, rfl, hf⟩ := RdS.of_own ho
          have sm := smBlk (b1 := w.heap.size) (b2 := w.heap.size + 1) bb (by have := hb.out.size; have := HN7.out; have := hN2.out; omega) (by have := hb.out.size; have := HN7.out; have := hN2.out; omega)
          replace hb := Lib.hid (hb.out.trans (bb.mono hb.out.size))
          refine hK _ _ (.inr sm) ?_
          clear hK K sm bb ho
          try simp only [Act.put, List.setIfInBounds_toArray, List.set_cons_zero, List.set_cons_succ]
          have hyM := Lib.hid hb.out.size
          replace hf := Lib.hid (hf.mono (G := fun k => k < u9.heap.size) fun k hk => hk.2)
          obtain ⟨M, hMe⟩ : ∃ M, u9.heap.size = M := ⟨_, rfl⟩
          rw [hMe] at hyM hf
          have hM := Lib.hid (Nat.le_of_eq hMe.symm)
          clear hMe
          ((first | (refine takeT 5 (v := ?_) rfl (by decide +kernel) (by decide +kernel) (by decide +kernel) (fun _ _ _ h => h) (by decide +kernel) (Or.inl ⟨by rfl, ?_⟩) ?_; rotate_left 1; (focus (intro W hW; have hcW := hW.at; (try dsimp only at hcW); go_simp; first | done | with_reducible rfl)); try simp only [Act.put, List.setIfInBounds_toArray, List.set_cons_zero, List.set_cons_succ]) | (refine takeW 5 (v := ?_) rfl (by decide +kernel) (by decide +kernel) (by decide +kernel) (fun _ _ _ h => h) (Or.inl ⟨by rfl, ?_⟩) ?_; rotate_left 1; (focus (intro W hW; go_simp; first | done | with_reducible rfl)); try simp only [Act.put, List.setIfInBounds_toArray, List.set_cons_zero, List.set_cons_succ]) | (refine takeW 5 rfl (by decide +kernel) (by decide +kernel) (by decide +kernel) (fun _ _ _ h => h) (Or.inr ⟨by rfl, rfl⟩) ?_; try simp only [Act.put, List.setIfInBounds_toArray, List.set_cons_zero, List.set_cons_succ]) | skip))
          refine stepTA [7, 11, 12] (by decide +kernel) (by decide) ?_
          intro i hi
          rcases (by simpa using hi : i = 7 ∨ i = 11 ∨ i = 12) with rfl | rfl | rfl
          · clear hi
            refine ⟨_, rfl, by rfl, ?_⟩
            intro K hK
            go_simp
            refine (KRS.out u9 M hM.out hyM.out hb.out Af cf hf.out).mono ?_
            rintro e u10 ⟨v', F', A', c', rfl, ra, hw, hm⟩
            have bb := hm.belowN (N := u9.heap.size) (fun k hk => hk.elim) (Nat.le_refl _)
            have sm := smBlk (b1 := w.heap.size) (b2 := w.heap.size + 1) bb (by have := hb.out.size; have := HN7.out; have := hN2.out; omega) (by have := hb.out.size; have := HN7.out; have := hN2.out; omega)
            have hFy := Lib.hid (show ∀ k, F' k → y.heap.size ≤ k from fun k hk => (hm.new _ hk).elim (fun h => h.elim) (fun h => Nat.le_trans hb.out.size h))
            replace hb := Lib.hid (hb.out.trans (bb.mono hb.out.size))
            replace hM := Lib.hid (Nat.le_trans hM.out bb.size)
            replace ra := Lib.hid ra
            replace hw := Lib.hid hw
            refine hK _ _ (.inr sm) ?_
            clear hK K sm bb hm hf
            try simp only [Act.put, List.setIfInBounds_toArray, List.set_cons_zero, List.set_cons_succ]
            ((first | (refine takeT 8 (v := ?_) rfl (by decide +kernel) (by decide +kernel) (by decide +kernel) (fun _ _ _ h => h) (by decide +kernel) (Or.inl ⟨by rfl, ?_⟩) ?_; rotate_left 1; (focus (intro W hW; have hcW := hW.at; (try dsimp only at hcW); go_simp; first | done | with_reducible rfl)); try simp only [Act.put, List.setIfInBounds_toArray, List.set_cons_zero, List.set_cons_succ]) | (refine takeW 8 (v := ?_) rfl (by decide +kernel) (by decide +kernel) (by decide +kernel) (fun _ _ _ h => h) (Or.inl ⟨by rfl, ?_⟩) ?_; rotate_left 1; (focus (intro W hW; go_simp; first | done | with_reducible rfl)); try simp only [Act.put, List.setIfInBounds_toArray, List.set_cons_zero, List.set_cons_succ]) | (refine takeW 8 rfl (by decide +kernel) (by decide +kernel) (by decide +kernel) (fun _ _ _ h => h) (Or.inr ⟨by rfl, rfl⟩) ?_; try simp only [Act.put, List.setIfInBounds_toArray, List.set_cons_zero, List.set_cons_succ]) | skip); (first | (refine takeT 9 (v := ?_) rfl (by decide +kernel) (by decide +kernel) (by decide +kernel) (fun _ _ _ h => h) (by decide +kernel) (Or.inl ⟨by rfl, ?_⟩) ?_; rotate_left 1; (focus (intro W hW; have hcW := hW.at; (try dsimp only at hcW); go_simp; first | done | with_reducible rfl)); try simp only [Act.put, List.setIfInBounds_toArray, List.set_cons_zero, List.set_cons_succ]) | (refine takeW 9 (v := ?_) rfl (by decide +kernel) (by decide +kernel) (by decide +kernel) (fun _ _ _ h => h) (Or.inl ⟨by rfl, ?_⟩) ?_; rotate_left 1; (focus (intro W hW; go_simp; first | done | with_reducible rfl)); try simp only [Act.put, List.setIfInBounds_toArray, List.set_cons_zero, List.set_cons_succ]) | (refine takeW 9 rfl (by decide +kernel) (by decide +kernel) (by decide +kernel) (fun _ _ _ h => h) (Or.inr ⟨by rfl, rfl⟩) ?_; try simp only [Act.put, List.setIfInBounds_toArray, List.set_cons_zero, List.set_cons_succ]) | skip); (first | (refine takeT 10 (v := ?_) rfl (by decide +kernel) (by decide +kernel) (by decide +kernel) (fun _ _ _ h => h) (by decide +kernel) (Or.inl ⟨by rfl, ?_⟩) ?_; rotate_left 1; (focus (intro W hW; have hcW := hW.at; (try dsimp only at hcW); go_simp; first | done | with_reducible rfl)); try simp only [Act.put, List.setIfInBounds_toArray, List.set_cons_zero, List.set_cons_succ]) | (refine takeW 10 (v := ?_) rfl (by decide +kernel) (by decide +kernel) (by decide +kernel) (fun _ _ _ h => h) (Or.inl ⟨by rfl, ?_⟩) ?_; rotate_left 1; (focus (intro W hW; go_simp; first | done | with_reducible rfl)); try simp only [Act.put, List.setIfInBounds_toArray, List.set_cons_zero, List.set_cons_succ]) | (refine takeW 10 rfl (by decide +kernel) (by decide +kernel) (by decide +kernel) (fun _ _ _ h => h) (Or.inr ⟨by rfl, rfl⟩) ?_; try simp only [Act.put, List.setIfInBounds_toArray, List.set_cons_zero, List.set_cons_succ]) | skip))
            refine stepTA [11, 12] (by decide +kernel) (by decide) ?_
            intro i hi
            rcases (by simpa using hi : i = 11 ∨ i = 12) with rfl | rfl
            · clear hi
              refine ⟨_, rfl, by rfl, ?_⟩
              intro K hK
              go_simp
              have bb := (Below.refl u10.heap.size u10).alloc (Nat.le_refl _) (.cells #[.slice none 0 0, .slice none 0 0, .slice none 0 0, .slice none 0 0] 67)
              have sm := smBlk (b1 := w.heap.size) (b2 := w.heap.size + 1) bb (by have := hb.out.size; have := HN7.out; have := hN2.out; omega) (by have := hb.out.size; have := HN7.out; have := hN2.out; omega)
              have l9 := Lib.hid hb.out.size
              have b9 := Lib.hid (alloc1 u10 (.cells #[.slice none 0 0, .slice none 0 0, .slice none 0 0, .slice none 0 0] 67))
              have n9 := Lib.hid (show ¬ F' u10.heap.size from fun hf => by have := ((rwA _ _ _).ge hw.out _ hf).2; omega)
              replace hw := Lib.hid (Asr.below hw.out bb hM.out)
              replace ra := Lib.hid (ra.out.keep (w' := u10.alloc (.cells #[.slice none 0 0, .slice none 0 0, .slice none 0 0, .slice none 0 0] 67)) fun k hk => bb.block k (Nat.lt_of_lt_of_le hk.2 hM.out))
              replace hb := Lib.hid (hb.out.trans (bb.mono hb.out.size))
              replace hM := Lib.hid (Nat.le_trans hM.out bb.size)
              refine hK _ _ (.inr sm) ?_
              clear hK K sm bb
              try simp only [Act.put, List.setIfInBounds_toArray, List.set_cons_zero, List.set_cons_succ]
              generalize u10.alloc (.cells #[.slice none 0 0, .slice none 0 0, .slice none 0 0, .slice none 0 0] 67) = u11 at b9 l9 hb n9 hw ra hM ⊢
              generalize u10.heap.size = g9 at b9 l9 hb n9 hw ra hM ⊢
              refine stepTA [12] (by decide +kernel) (by decide) ?_
              intro i hi
              obtain rfl : i = 12 := by simpa using hi
              clear hi
              refine ⟨_, rfl, by rfl, ?_⟩
              intro K hK
              go_simp
              have bb := (Below.refl u11.heap.size u11).alloc (Nat.le_refl _) (.cells #[.int .u8 0, .slice none 0 0] 56)
              have sm := smBlk (b1 := w.heap.size) (b2 := w.heap.size + 1) bb (by have := hb.out.size; have := HN7.out; have := hN2.out; omega) (by have := hb.out.size; have := HN7.out; have := hN2.out; omega)
              have l10 := Lib.hid hb.out.size
              have ne := Lib.hid (show g9 ≠ u11.heap.size from fun e => by have := block_lt b9.out; omega)
              replace b9 := Lib.hid ((bb.block _ (block_lt b9.out)).trans b9.out)
              have b10 := Lib.hid (alloc1 u11 (.cells #[.int .u8 0, .slice none 0 0] 56))
              have n10 := Lib.hid (show ¬ F' u11.heap.size from fun hf => by have := ((rwA _ _ _).ge hw.out _ hf).2; omega)
              replace hw := Lib.hid (Asr.below hw.out bb hM.out)
              replace ra := Lib.hid (ra.out.keep (w' := u11.alloc (.cells #[.int .u8 0, .slice none 0 0] 56)) fun k hk => bb.block k (Nat.lt_of_lt_of_le hk.2 hM.out))
              replace hb := Lib.hid (hb.out.trans (bb.mono hb.out.size))
              replace hM := Lib.hid (Nat.le_trans hM.out bb.size)
              refine hK _ _ (.inr sm) ?_
              clear hK K sm bb
              try simp only [Act.put, List.setIfInBounds_toArray, List.set_cons_zero, List.set_cons_succ]
              generalize u11.alloc (.cells #[.int .u8 0, .slice none 0 0] 56) = u12 at b10 l10 hb ne b9 n10 hw ra hM ⊢
              generalize u11.heap.size = g10 at b10 l10 hb ne b9 n10 hw ra hM ⊢
              obtain ⟨Aa, ca, Af2, cf2, A2', c2', A3', c3', rfl, hw1, hw2, hw3, hw4, hw5, hw6⟩ := hw.out
              have hwy := Hw7.out.size
              have hH := Lib.hid (hw3.rdl.mono (G := fun k => k ≠ g9 ∧ k ≠ g10) fun k hk => hk.elim (fun h => by have := l9.out; have := l10.out; have h1 : k < w.heap.size := h.1; omega) (fun h => ⟨fun e => n9.out (by rw [← e]; exact (hw6 k).2 (.inl h)), fun e => n10.out (by rw [← e]; exact (hw6 k).2 (.inl h))⟩))
              have hS := Lib.hid (hw4.rdl.mono (G := fun k => (k < w.heap.size ∨ y.heap.size ≤ k) ∧ k ≠ g9 ∧ k ≠ g10) fun k hk => hk.elim (fun h => by have := l9.out; have := l10.out; have h1 : k < w.heap.size := h.1; omega) (fun h => ⟨.inr (hFy.out k ((hw6 k).2 (.inr h))), fun e => n9.out (by rw [← e]; exact (hw6 k).2 (.inr h)), fun e => n10.out (by rw [← e]; exact (hw6 k).2 (.inr h))⟩))
              have hA := Lib.hid (ra.out.mono (G := fun k => k ≠ g9 ∧ k ≠ g10) fun k hk => by have := l9.out; have := l10.out; have h1 : k < w.heap.size := hk.1; omega)
              have ne2 := Lib.hid (show g9 ≠ g10 from ne.out)
              clear hw1 hw2 hw3 hw4 hw5 hw6 hw ra hwy hFy
              refine stepT 13 rfl (by decide +kernel) (by rfl) ?_
              intro K hK
              refine wp_storeB flatRw (.tmp 9) (.tmp 52) rfl g9 rfl _ rfl b9.out rfl rfl rfl ?_
              intro z1 k1 hg1 hs1
              refine hK _ _ (.inl (by decide)) ?_
              clear hK K
              try simp only [Act.put, List.setIfInBounds_toArray, List.set_cons_zero, List.set_cons_succ]
              have b10z := grown_block hg1 b10.out (fun e => ne2.out (by injection e with e; exact e.symm))
              replace hH := Lib.hid (hH.out.grown hg1 (fun k hk => hk.1) (by decide))
              replace hS := Lib.hid (hS.out.grown hg1 (fun k hk => hk.2.1) (by decide))
              replace hA := Lib.hid (hA.out.grown hg1 fun k hk => hk.1)
              replace hb := Lib.hid (below_grown hb.out hg1 hb.out.size l9.out)
              have K1 := Lib.hid k1
              clear k1 hg1 hs1
              refine stepT 14 rfl (by decide +kernel) (by rfl) ?_
              intro K hK
              refine wp_storeB flatOut (.tmp 10) (.tmp 53) rfl g10 rfl _ rfl b10z rfl rfl rfl ?_
              intro z2 k2 hg2 hs2
              refine hK _ _ (.inl (by decide)) ?_
              clear hK K
              try simp only [Act.put, List.setIfInBounds_toArray, List.set_cons_zero, List.set_cons_succ]
              refine doneT (by kernel_rfl) ?_
              refine ⟨g9, g10, Aa, ca, Af2, cf2, A2', c2', A3', c3', A', c', _, _, _, _, _, _, _, _, _, _, _, rfl, grown_block hg2 K1.out (fun e => ne2.out (by injection e)), k2, ?_⟩
              exact ⟨(hA.out.grown hg2 fun k hk => hk.2).mono fun _ _ => trivial, (hH.out.grown hg2 (fun k hk => hk.2) (by decide)).mono fun _ _ => trivial, (hS.out.grown hg2 (fun k hk => hk.2.2) (by decide)).mono fun _ hk => hk.1, below_grown hb.out hg2 hb.out.size l10.out, l9.out, l10.out⟩
            · clear hi
              refine ⟨_, rfl, by rfl, ?_⟩
              intro K hK
              go_simp
              have bb := (Below.refl u10.heap.size u10).alloc (Nat.le_refl _) (.cells #[.int .u8 0, .slice none 0 0] 56)
              have sm := smBlk (b1 := w.heap.size) (b2 := w.heap.size + 1) bb (by have := hb.out.size; have := HN7.out; have := hN2.out; omega) (by have := hb.out.size; have := HN7.out; have := hN2.out; omega)
              have l10 := Lib.hid hb.out.size
              have b10 := Lib.hid (alloc1 u10 (.cells #[.int .u8 0, .slice none 0 0] 56))
              have n10 := Lib.hid (show ¬ F' u10.heap.size from fun hf => by have := ((rwA _ _ _).ge hw.out _ hf).2; omega)
              replace hw := Lib.hid (Asr.below hw.out bb hM.out)
              replace ra := Lib.hid (ra.out.keep (w' := u10.alloc (.cells #[.int .u8 0, .slice none 0 0] 56)) fun k hk => bb.block k (Nat.lt_of_lt_of_le hk.2 hM.out))
              replace hb := Lib.hid (hb.out.trans (bb.mono hb.out.size))
              replace hM := Lib.hid (Nat.le_trans hM.out bb.size)
              refine hK _ _ (.inr sm) ?_
              clear hK K sm bb
              try simp only [Act.put, List.setIfInBounds_toArray, List.set_cons_zero, List.set_cons_succ]
              generalize u10.alloc (.cells #[.int .u8 0, .slice none 0 0] 56) = u13 at b10 l10 hb n10 hw ra hM ⊢
              generalize u10.heap.size = g10 at b10 l10 hb n10 hw ra hM ⊢
              refine stepTA [11] (by decide +kernel) (by decide) ?_
              intro i hi
              obtain rfl : i = 11 := by simpa using hi
              clear hi
              refine ⟨_, rfl, by rfl, ?_⟩
              intro K hK
              go_simp
              have bb := (Below.refl u13.heap.size u13).alloc (Nat.le_refl _) (.cells #[.slice none 0 0, .slice none 0 0, .slice none 0 0, .slice none 0 0] 67)
              have sm := smBlk (b1 := w.heap.size) (b2 := w.heap.size + 1) bb (by have := hb.out.size; have := HN7.out; have := hN2.out; omega) (by have := hb.out.size; have := HN7.out; have := hN2.out; omega)
              have l9 := Lib.hid hb.out.size
              have ne := Lib.hid (show g10 ≠ u13.heap.size from fun e => by have := block_lt b10.out; omega)
              replace b10 := Lib.hid ((bb.block _ (block_lt b10.out)).trans b10.out)
              have b9 := Lib.hid (alloc1 u13 (.cells #[.slice none 0 0, .slice none 0 0, .slice none 0 0, .slice none 0 0] 67))
              have n9 := Lib.hid (show ¬ F' u13.heap.size from fun hf => by have := ((rwA _ _ _).ge hw.out _ hf).2; omega)
              replace hw := Lib.hid (Asr.below hw.out bb hM.out)
              replace ra := Lib.hid (ra.out.keep (w' := u13.alloc (.cells #[.slice none 0 0, .slice none 0 0, .slice none 0 0, .slice none 0 0] 67)) fun k hk => bb.block k (Nat.lt_of_lt_of_le hk.2 hM.out))
              replace hb := Lib.hid (hb.out.trans (bb.mono hb.out.size))
              replace hM := Lib.hid (Nat.le_trans hM.out bb.size)
              refine hK _ _ (.inr sm) ?_
              clear hK K sm bb
              try simp only [Act.put, List.setIfInBounds_toArray, List.set_cons_zero, List.set_cons_succ]
              generalize u13.alloc (.cells #[.slice none 0 0, .slice none 0 0, .slice none 0 0, .slice none 0 0] 67) = u14 at b9 l9 hb ne b10 n9 hw ra hM ⊢
              generalize u13.heap.size = g9 at b9 l9 hb ne b10 n9 hw ra hM ⊢
              obtain ⟨Aa, ca, Af2, cf2, A2', c2', A3', c3', rfl, hw1, hw2, hw3, hw4, hw5, hw6⟩ := hw.out
              have hwy := Hw7.out.size
              have hH := Lib.hid (hw3.rdl.mono (G := fun k => k ≠ g9 ∧ k ≠ g10) fun k hk => hk.elim (fun h => by have := l9.out; have := l10.out; have h1 : k < w.heap.size := h.1; omega) (fun h => ⟨fun e => n9.out (by rw [← e]; exact (hw6 k).2 (.inl h)), fun e => n10.out (by rw [← e]; exact (hw6 k).2 (.inl h))⟩))
              have hS := Lib.hid (hw4.rdl.mono (G := fun k => (k < w.heap.size ∨ y.heap.size ≤ k) ∧ k ≠ g9 ∧ k ≠ g10) fun k hk => hk.elim (fun h => by have := l9.out; have := l10.out; have h1 : k < w.heap.size := h.1; omega) (fun h => ⟨.inr (hFy.out k ((hw6 k).2 (.inr h))), fun e => n9.out (by rw [← e]; exact (hw6 k).2 (.inr h)), fun e => n10.out (by rw [← e]; exact (hw6 k).2 (.inr h))⟩))
              have hA := Lib.hid (ra.out.mono (G := fun k => k ≠ g9 ∧ k ≠ g10) fun k hk => by have := l9.out; have := l10.out; have h1 : k < w.heap.size := hk.1; omega)
              have ne2 := Lib.hid (show g9 ≠ g10 from (fun e => ne.out e.symm))
              clear hw1 hw2 hw3 hw4 hw5 hw6 hw ra hwy hFy
              refine stepT 13 rfl (by decide +kernel) (by rfl) ?_
              intro K hK
              refine wp_storeB flatRw (.tmp 9) (.tmp 52) rfl g9 rfl _ rfl b9.out rfl rfl rfl ?_
              intro z1 k1 hg1 hs1
              refine hK _ _ (.inl (by decide)) ?_
              clear hK K
              try simp only [Act.put, List.setIfInBounds_toArray, List.set_cons_zero, List.set_cons_succ]
              have b10z := grown_block hg1 b10.out (fun e => ne2.out (by injection e with e; exact e.symm))
              replace hH := Lib.hid (hH.out.grown hg1 (fun k hk => hk.1) (by decide))
              replace hS := Lib.hid (hS.out.grown hg1 (fun k hk => hk.2.1) (by decide))
              replace hA := Lib.hid (hA.out.grown hg1 fun k hk => hk.1)
              replace hb := Lib.hid (below_grown hb.out hg1 hb.out.size l9.out)
              have K1 := Lib.hid k1
              clear k1 hg1 hs1
              refine stepT 14 rfl (by decide +kernel) (by rfl) ?_
              intro K hK
              refine wp_storeB flatOut (.tmp 10) (.tmp 53) rfl g10 rfl _ rfl b10z rfl rfl rfl ?_
              intro z2 k2 hg2 hs2
              refine hK _ _ (.inl (by decide)) ?_
              clear hK K
              try simp only [Act.put, List.setIfInBounds_toArray, List.set_cons_zero, List.set_cons_succ]
              refine doneT (by kernel_rfl) ?_
              refine ⟨g9, g10, Aa, ca, Af2, cf2, A2', c2', A3', c3', A', c', _, _, _, _, _, _, _, _, _, _, _, rfl, grown_block hg2 K1.out (fun e => ne2.out (by injection e)), k2, ?_⟩
              exact ⟨(hA.out.grown hg2 fun k hk => hk.2).mono fun _ _ => trivial, (hH.out.grown hg2 (fun k hk => hk.2) (by decide)).mono fun _ _ => trivial, (hS.out.grown hg2 (fun k hk => hk.2.2) (by decide)).mono fun _ hk => hk.1, below_grown hb.out hg2 hb.out.size l10.out, l9.out, l10.out⟩
          · clear hi
            refine ⟨_, rfl, by rfl, ?_⟩
            intro K hK
            go_simp
            have bb := (Below.refl u9.heap.size u9).alloc (Nat.le_refl _) (.cells #[.slice none 0 0, .slice none 0 0, .slice none 0 0, .slice none 0 0] 67)
            have sm := smBlk (b1 := w.heap.size) (b2 := w.heap.size + 1) bb (by have := hb.out.size; have := HN7.out; have := hN2.out; omega) (by have := hb.out.size; have := HN7.out; have := hN2.out; omega)
            have l9 := Lib.hid hb.out.size
            have b9 := Lib.hid (alloc1 u9 (.cells #[.slice none 0 0, .slice none 0 0, .slice none 0 0, .slice none 0 0] 67))
            replace hf := Lib.hid (hf.out.keep (w' := u9.alloc (.cells #[.slice none 0 0, .slice none 0 0, .slice none 0 0, .slice none 0 0] 67)) fun k hk => bb.block k (Nat.lt_of_lt_of_le hk hM.out))
            replace hb := Lib.hid (hb.out.trans (bb.mono hb.out.size))
            replace hM := Lib.hid (Nat.le_trans hM.out bb.size)
            refine hK _ _ (.inr sm) ?_
            clear hK K sm bb
            try simp only [Act.put, List.setIfInBounds_toArray, List.set_cons_zero, List.set_cons_succ]
            generalize u9.alloc (.cells #[.slice none 0 0, .slice none 0 0, .slice none 0 0, .slice none 0 0] 67) = u15 at b9 l9 hb hf hM ⊢
            generalize u9.heap.size = g9 at b9 l9 hb hf hM ⊢
            refine stepTA [7, 12] (by decide +kernel) (by decide) ?_
            intro i hi
            rcases (by simpa using hi : i = 7 ∨ i = 12) with rfl | rfl
            · clear hi
              refine ⟨_, rfl, by rfl, ?_⟩
              intro K hK
              go_simp
              refine (KRS.out u15 M hM.out hyM.out hb.out Af cf hf.out).mono ?_
              rintro e u16 ⟨v', F', A', c', rfl, ra, hw, hm⟩
              have bb := hm.belowN (N := u15.heap.size) (fun k hk => hk.elim) (Nat.le_refl _)
              have sm := smBlk (b1 := w.heap.size) (b2 := w.heap.size + 1) bb (by have := hb.out.size; have := HN7.out; have := hN2.out; omega) (by have := hb.out.size; have := HN7.out; have := hN2.out; omega)
              have hFy := Lib.hid (show ∀ k, F' k → y.heap.size ≤ k from fun k hk => (hm.new _ hk).elim (fun h => h.elim) (fun h => Nat.le_trans hb.out.size h))
              have n9 := Lib.hid (show ¬ F' g9 from fun hf => (hm.new _ hf).elim (fun h => h) (fun h => by have := block_lt b9.out; omega))
              replace b9 := Lib.hid ((bb.block _ (block_lt b9.out)).trans b9.out)
              replace hb := Lib.hid (hb.out.trans (bb.mono hb.out.size))
              replace hM := Lib.hid (Nat.le_trans hM.out bb.size)
              replace ra := Lib.hid ra
              replace hw := Lib.hid hw
              refine hK _ _ (.inr sm) ?_
              clear hK K sm bb hm hf
              try simp only [Act.put, List.setIfInBounds_toArray, List.set_cons_zero, List.set_cons_succ]
              ((first | (refine takeT 8 (v := ?_) rfl (by decide +kernel) (by decide +kernel) (by decide +kernel) (fun _ _ _ h => h) (by decide +kernel) (Or.inl ⟨by rfl, ?_⟩) ?_; rotate_left 1; (focus (intro W hW; have hcW := hW.at; (try dsimp only at hcW); go_simp; first | done | with_reducible rfl)); try simp only [Act.put, List.setIfInBounds_toArray, List.set_cons_zero, List.set_cons_succ]) | (refine takeW 8 (v := ?_) rfl (by decide +kernel) (by decide +kernel) (by decide +kernel) (fun _ _ _ h => h) (Or.inl ⟨by rfl, ?_⟩) ?_; rotate_left 1; (focus (intro W hW; go_simp; first | done | with_reducible rfl)); try simp only [Act.put, List.setIfInBounds_toArray, List.set_cons_zero, List.set_cons_succ]) | (refine takeW 8 rfl (by decide +kernel) (by decide +kernel) (by decide +kernel) (fun _ _ _ h => h) (Or.inr ⟨by rfl, rfl⟩) ?_; try simp only [Act.put, List.setIfInBounds_toArray, List.set_cons_zero, List.set_cons_succ]) | skip); (first | (refine takeT 9 (v := ?_) rfl (by decide +kernel) (by decide +kernel) (by decide +kernel) (fun _ _ _ h => h) (by decide +kernel) (Or.inl ⟨by rfl, ?_⟩) ?_; rotate_left 1; (focus (intro W hW; have hcW := hW.at; (try dsimp only at hcW); go_simp; first | done | with_reducible rfl)); try simp only [Act.put, List.setIfInBounds_toArray, List.set_cons_zero, List.set_cons_succ]) | (refine takeW 9 (v := ?_) rfl (by decide +kernel) (by decide +kernel) (by decide +kernel) (fun _ _ _ h => h) (Or.inl ⟨by rfl, ?_⟩) ?_; rotate_left 1; (focus (intro W hW; go_simp; first | done | with_reducible rfl)); try simp only [Act.put, List.setIfInBounds_toArray, List.set_cons_zero, List.set_cons_succ]) | (refine takeW 9 rfl (by decide +kernel) (by decide +kernel) (by decide +kernel) (fun _ _ _ h => h) (Or.inr ⟨by rfl, rfl⟩) ?_; try simp only [Act.put, List.setIfInBounds_toArray, List.set_cons_zero, List.set_cons_succ]) | skip); (first | (refine takeT 10 (v := ?_) rfl (by decide +kernel) (by decide +kernel) (by decide +kernel) (fun _ _ _ h => h) (by decide +kernel) (Or.inl ⟨by rfl, ?_⟩) ?_; rotate_left 1; (focus (intro W hW; have hcW := hW.at; (try dsimp only at hcW); go_simp; first | done | with_reducible rfl)); try simp only [Act.put, List.setIfInBounds_toArray, List.set_cons_zero, List.set_cons_succ]) | (refine takeW 10 (v := ?_) rfl (by decide +kernel) (by decide +kernel) (by decide +kernel) (fun _ _ _ h => h) (Or.inl ⟨by rfl, ?_⟩) ?_; rotate_left 1; (focus (intro W hW; go_simp; first | done | with_reducible rfl)); try simp only [Act.put, List.setIfInBounds_toArray, List.set_cons_zero, List.set_cons_succ]) | (refine takeW 10 rfl (by decide +kernel) (by decide +kernel) (by decide +kernel) (fun _ _ _ h => h) (Or.inr ⟨by rfl, rfl⟩) ?_; try simp only [Act.put, List.setIfInBounds_toArray, List.set_cons_zero, List.set_cons_succ]) | skip))
              refine stepTA [12] (by decide +kernel) (by decide) ?_
              intro i hi
              obtain rfl : i = 12 := by simpa using hi
              clear hi
              refine ⟨_, rfl, by rfl, ?_⟩
              intro K hK
              go_simp
              have bb := (Below.refl u16.heap.size u16).alloc (Nat.le_refl _) (.cells #[.int .u8 0, .slice none 0 0] 56)
              have sm := smBlk (b1 := w.heap.size) (b2 := w.heap.size + 1) bb (by have := hb.out.size; have := HN7.out; have := hN2.out; omega) (by have := hb.out.size; have := HN7.out; have := hN2.out; omega)
              have l10 := Lib.hid hb.out.size
              have ne := Lib.hid (show g9 ≠ u16.heap.size from fun e => by have := block_lt b9.out; omega)
              replace b9 := Lib.hid ((bb.block _ (block_lt b9.out)).trans b9.out)
              have b10 := Lib.hid (alloc1 u16 (.cells #[.int .u8 0, .slice none 0 0] 56))
              have n10 := Lib.hid (show ¬ F' u16.heap.size from fun hf => by have := ((rwA _ _ _).ge hw.out _ hf).2; omega)
              replace hw := Lib.hid (Asr.below hw.out bb hM.out)
              replace ra := Lib.hid (ra.out.keep (w' := u16.alloc (.cells #[.int .u8 0, .slice none 0 0] 56)) fun k hk => bb.block k (Nat.lt_of_lt_of_le hk.2 hM.out))
              replace hb := Lib.hid (hb.out.trans (bb.mono hb.out.size))
              replace hM := Lib.hid (Nat.le_trans hM.out bb.size)
              refine hK _ _ (.inr sm) ?_
              clear hK K sm bb
              try simp only [Act.put, List.setIfInBounds_toArray, List.set_cons_zero, List.set_cons_succ]
              generalize u16.alloc (.cells #[.int .u8 0, .slice none 0 0] 56) = u17 at b10 l10 hb ne b9 n10 hw ra hM ⊢
              generalize u16.heap.size = g10 at b10 l10 hb ne b9 n10 hw ra hM ⊢
              obtain ⟨Aa, ca, Af2, cf2, A2', c2', A3', c3', rfl, hw1, hw2, hw3, hw4, hw5, hw6⟩ := hw.out
              have hwy := Hw7.out.size
              have hH := Lib.hid (hw3.rdl.mono (G := fun k => k ≠ g9 ∧ k ≠ g10) fun k hk => hk.elim (fun h => by have := l9.out; have := l10.out; have h1 : k < w.heap.size := h.1; omega) (fun h => ⟨fun e => n9.out (by rw [← e]; exact (hw6 k).2 (.inl h)), fun e => n10.out (by rw [← e]; exact (hw6 k).2 (.inl h))⟩))
              have hS := Lib.hid (hw4.rdl.mono (G := fun k => (k < w.heap.size ∨ y.heap.size ≤ k) ∧ k ≠ g9 ∧ k ≠ g10) fun k hk => hk.elim (fun h => by have := l9.out; have := l10.out; have h1 : k < w.heap.size := h.1; omega) (fun h => ⟨.inr (hFy.out k ((hw6 k).2 (.inr h))), fun e => n9.out (by rw [← e]; exact (hw6 k).2 (.inr h)), fun e => n10.out (by rw [← e]; exact (hw6 k).2 (.inr h))⟩))
              have hA := Lib.hid (ra.out.mono (G := fun k => k ≠ g9 ∧ k ≠ g10) fun k hk => by have := l9.out; have := l10.out; have h1 : k < w.heap.size := hk.1; omega)
              have ne2 := Lib.hid (show g9 ≠ g10 from ne.out)
              clear hw1 hw2 hw3 hw4 hw5 hw6 hw ra hwy hFy
              refine stepT 13 rfl (by decide +kernel) (by rfl) ?_
              intro K hK
              refine wp_storeB flatRw (.tmp 9) (.tmp 52) rfl g9 rfl _ rfl b9.out rfl rfl rfl ?_
              intro z1 k1 hg1 hs1
              refine hK _ _ (.inl (by decide)) ?_
              clear hK K
              try simp only [Act.put, List.setIfInBounds_toArray, List.set_cons_zero, List.set_cons_succ]
              have b10z := grown_block hg1 b10.out (fun e => ne2.out (by injection e with e; exact e.symm))
              replace hH := Lib.hid (hH.out.grown hg1 (fun k hk => hk.1) (by decide))
              replace hS := Lib.hid (hS.out.grown hg1 (fun k hk => hk.2.1) (by decide))
              replace hA := Lib.hid (hA.out.grown hg1 fun k hk => hk.1)
              replace hb := Lib.hid (below_grown hb.out hg1 hb.out.size l9.out)
              have K1 := Lib.hid k1
              clear k1 hg1 hs1
              refine stepT 14 rfl (by decide +kernel) (by rfl) ?_
              intro K hK
              refine wp_storeB flatOut (.tmp 10) (.tmp 53) rfl g10 rfl _ rfl b10z rfl rfl rfl ?_
              intro z2 k2 hg2 hs2
              refine hK _ _ (.inl (by decide)) ?_
              clear hK K
              try simp only [Act.put, List.setIfInBounds_toArray, List.set_cons_zero, List.set_cons_succ]
              refine doneT (by kernel_rfl) ?_
              refine ⟨g9, g10, Aa, ca, Af2, cf2, A2', c2', A3', c3', A', c', _, _, _, _, _, _, _, _, _, _, _, rfl, grown_block hg2 K1.out (fun e => ne2.out (by injection e)), k2, ?_⟩
              exact ⟨(hA.out.grown hg2 fun k hk => hk.2).mono fun _ _ => trivial, (hH.out.grown hg2 (fun k hk => hk.2) (by decide)).mono fun _ _ => trivial, (hS.out.grown hg2 (fun k hk => hk.2.2) (by decide)).mono fun _ hk => hk.1, below_grown hb.out hg2 hb.out.size l10.out, l9.out, l10.out⟩
            · clear hi
              refine ⟨_, rfl, by rfl, ?_⟩
              intro K hK
              go_simp
              have bb := (Below.refl u15.heap.size u15).alloc (Nat.le_refl _) (.cells #[.int .u8 0, .slice none 0 0] 56)
              have sm := smBlk (b1 := w.heap.size) (b2 := w.heap.size + 1) bb (by have := hb.out.size; have := HN7.out; have := hN2.out; omega) (by have := hb.out.size; have := HN7.out; have := hN2.out; omega)
              have l10 := Lib.hid hb.out.size
              have ne := Lib.hid (show g9 ≠ u15.heap.size from fun e => by have := block_lt b9.out; omega)
              replace b9 := Lib.hid ((bb.block _ (block_lt b9.out)).trans b9.out)
              have b10 := Lib.hid (alloc1 u15 (.cells #[.int .u8 0, .slice none 0 0] 56))
              replace hf := Lib.hid (hf.out.keep (w' := u15.alloc (.cells #[.int .u8 0, .slice none 0 0] 56)) fun k hk => bb.block k (Nat.lt_of_lt_of_le hk hM.out))
              replace hb := Lib.hid (hb.out.trans (bb.mono hb.out.size))
              replace hM := Lib.hid (Nat.le_trans hM.out bb.size)
              refine hK _ _ (.inr sm) ?_
              clear hK K sm bb
              try simp only [Act.put, List.setIfInBounds_toArray, List.set_cons_zero, List.set_cons_succ]
              generalize u15.alloc (.cells #[.int .u8 0, .slice none 0 0] 56) = u18 at b10 l10 hb ne b9 hf hM ⊢
              generalize u15.heap.size = g10 at b10 l10 hb ne b9 hf hM ⊢
              refine stepTA [7] (by decide +kernel) (by decide) ?_
              intro i hi
              obtain rfl : i = 7 := by simpa using hi
              clear hi
              refine ⟨_, rfl, by rfl, ?_⟩
              intro K hK
              go_simp
              refine (KRS.out u18 M hM.out hyM.out hb.out Af cf hf.out).mono ?_
              rintro e u19 ⟨v', F', A', c', rfl, ra, hw, hm⟩
              have bb := hm.belowN (N := u18.heap.size) (fun k hk => hk.elim) (Nat.le_refl _)
              have sm := smBlk (b1 := w.heap.size) (b2 := w.heap.size + 1) bb (by have := hb.out.size; have := HN7.out; have := hN2.out; omega) (by have := hb.out.size; have := HN7.out; have := hN2.out; omega)
              have hFy := Lib.hid (show ∀ k, F' k → y.heap.size ≤ k from fun k hk => (hm.new _ hk).elim (fun h => h.elim) (fun h => Nat.le_trans hb.out.size h))
              have n9 := Lib.hid (show ¬ F' g9 from fun hf => (hm.new _ hf).elim (fun h => h) (fun h => by have := block_lt b9.out; omega))
              replace b9 := Lib.hid ((bb.block _ (block_lt b9.out)).trans b9.out)
              have n10 := Lib.hid (show ¬ F' g10 from fun hf => (hm.new _ hf).elim (fun h => h) (fun h => by have := block_lt b10.out; omega))
              replace b10 := Lib.hid ((bb.block _ (block_lt b10.out)).trans b10.out)
              replace hb := Lib.hid (hb.out.trans (bb.mono hb.out.size))
              replace hM := Lib.hid (Nat.le_trans hM.out bb.size)
              replace ra := Lib.hid ra
              replace hw := Lib.hid hw
              refine hK _ _ (.inr sm) ?_
              clear hK K sm bb hm hf
              try simp only [Act.put, List.setIfInBounds_toArray, List.set_cons_zero, List.set_cons_succ]
              ((first | (refine takeT 8 (v := ?_) rfl (by decide +kernel) (by decide +kernel) (by decide +kernel) (fun _ _ _ h => h) (by decide +kernel) (Or.inl ⟨by rfl, ?_⟩) ?_; rotate_left 1; (focus (intro W hW; have hcW := hW.at; (try dsimp only at hcW); go_simp; first | done | with_reducible rfl)); try simp only [Act.put, List.setIfInBounds_toArray, List.set_cons_zero, List.set_cons_succ]) | (refine takeW 8 (v := ?_) rfl (by decide +kernel) (by decide +kernel) (by decide +kernel) (fun _ _ _ h => h) (Or.inl ⟨by rfl, ?_⟩) ?_; rotate_left 1; (focus (intro W hW; go_simp; first | done | with_reducible rfl)); try simp only [Act.put, List.setIfInBounds_toArray, List.set_cons_zero, List.set_cons_succ]) | (refine takeW 8 rfl (by decide +kernel) (by decide +kernel) (by decide +kernel) (fun _ _ _ h => h) (Or.inr ⟨by rfl, rfl⟩) ?_; try simp only [Act.put, List.setIfInBounds_toArray, List.set_cons_zero, List.set_cons_succ]) | skip); (first | (refine takeT 9 (v := ?_) rfl (by decide +kernel) (by decide +kernel) (by decide +kernel) (fun _ _ _ h => h) (by decide +kernel) (Or.inl ⟨by rfl, ?_⟩) ?_; rotate_left 1; (focus (intro W hW; have hcW := hW.at; (try dsimp only at hcW); go_simp; first | done | with_reducible rfl)); try simp only [Act.put, List.setIfInBounds_toArray, List.set_cons_zero, List.set_cons_succ]) | (refine takeW 9 (v := ?_) rfl (by decide +kernel) (by decide +kernel) (by decide +kernel) (fun _ _ _ h => h) (Or.inl ⟨by rfl, ?_⟩) ?_; rotate_left 1; (focus (intro W hW; go_simp; first | done | with_reducible rfl)); try simp only [Act.put, List.setIfInBounds_toArray, List.set_cons_zero, List.set_cons_succ]) | (refine takeW 9 rfl (by decide +kernel) (by decide +kernel) (by decide +kernel) (fun _ _ _ h => h) (Or.inr ⟨by rfl, rfl⟩) ?_; try simp only [Act.put, List.setIfInBounds_toArray, List.set_cons_zero, List.set_cons_succ]) | skip); (first | (refine takeT 10 (v := ?_) rfl (by decide +kernel) (by decide +kernel) (by decide +kernel) (fun _ _ _ h => h) (by decide +kernel) (Or.inl ⟨by rfl, ?_⟩) ?_; rotate_left 1; (focus (intro W hW; have hcW := hW.at; (try dsimp only at hcW); go_simp; first | done | with_reducible rfl)); try simp only [Act.put, List.setIfInBounds_toArray, List.set_cons_zero, List.set_cons_succ]) | (refine takeW 10 (v := ?_) rfl (by decide +kernel) (by decide +kernel) (by decide +kernel) (fun _ _ _ h => h) (Or.inl ⟨by rfl, ?_⟩) ?_; rotate_left 1; (focus (intro W hW; go_simp; first | done | with_reducible rfl)); try simp only [Act.put, List.setIfInBounds_toArray, List.set_cons_zero, List.set_cons_succ]) | (refine takeW 10 rfl (by decide +kernel) (by decide +kernel) (by decide +kernel) (fun _ _ _ h => h) (Or.inr ⟨by rfl, rfl⟩) ?_; try simp only [Act.put, List.setIfInBounds_toArray, List.set_cons_zero, List.set_cons_succ]) | skip))
              obtain ⟨Aa, ca, Af2, cf2, A2', c2', A3', c3', rfl, hw1, hw2, hw3, hw4, hw5, hw6⟩ := hw.out
              have hwy := Hw7.out.size
              have hH := Lib.hid (hw3.rdl.mono (G := fun k => k ≠ g9 ∧ k ≠ g10) fun k hk => hk.elim (fun h => by have := l9.out; have := l10.out; have h1 : k < w.heap.size := h.1; omega) (fun h => ⟨fun e => n9.out (by rw [← e]; exact (hw6 k).2 (.inl h)), fun e => n10.out (by rw [← e]; exact (hw6 k).2 (.inl h))⟩))
              have hS := Lib.hid (hw4.rdl.mono (G := fun k => (k < w.heap.size ∨ y.heap.size ≤ k) ∧ k ≠ g9 ∧ k ≠ g10) fun k hk => hk.elim (fun h => by have := l9.out; have := l10.out; have h1 : k < w.heap.size := h.1; omega) (fun h => ⟨.inr (hFy.out k ((hw6 k).2 (.inr h))), fun e => n9.out (by rw [← e]; exact (hw6 k).2 (.inr h)), fun e => n10.out (by rw [← e]; exact (hw6 k).2 (.inr h))⟩))
              have hA := Lib.hid (ra.out.mono (G := fun k => k ≠ g9 ∧ k ≠ g10) fun k hk => by have := l9.out; have := l10.out; have h1 : k < w.heap.size := hk.1; omega)
              have ne2 := Lib.hid (show g9 ≠ g10 from ne.out)
              clear hw1 hw2 hw3 hw4 hw5 hw6 hw ra hwy hFy
              refine stepT 13 rfl (by decide +kernel) (by rfl) ?_
              intro K hK
              refine wp_storeB flatRw (.tmp 9) (.tmp 52) rfl g9 rfl _ rfl b9.out rfl rfl rfl ?_
              intro z1 k1 hg1 hs1
              refine hK _ _ (.inl (by decide)) ?_
              clear hK K
              try simp only [Act.put, List.setIfInBounds_toArray, List.set_cons_zero, List.set_cons_succ]
              have b10z := grown_block hg1 b10.out (fun e => ne2.out (by injection e with e; exact e.symm))
              replace hH := Lib.hid (hH.out.grown hg1 (fun k hk => hk.1) (by decide))
              replace hS := Lib.hid (hS.out.grown hg1 (fun k hk => hk.2.1) (by decide))
              replace hA := Lib.hid (hA.out.grown hg1 fun k hk => hk.1)
              replace hb := Lib.hid (below_grown hb.out hg1 hb.out.size l9.out)
              have K1 := Lib.hid k1
              clear k1 hg1 hs1
              refine stepT 14 rfl (by decide +kernel) (by rfl) ?_
              intro K hK
              refine wp_storeB flatOut (.tmp 10) (.tmp 53) rfl g10 rfl _ rfl b10z rfl rfl rfl ?_
              intro z2 k2 hg2 hs2
              refine hK _ _ (.inl (by decide)) ?_
              clear hK K
              try simp only [Act.put, List.setIfInBounds_toArray, List.set_cons_zero, List.set_cons_succ]
              refine doneT (by kernel_rfl) ?_
              refine ⟨g9, g10, Aa, ca, Af2, cf2, A2', c2', A3', c3', A', c', _, _, _, _, _, _, _, _, _, _, _, rfl, grown_block hg2 K1.out (fun e => ne2.out (by injection e)), k2, ?_⟩
              exact ⟨(hA.out.grown hg2 fun k hk => hk.2).mono fun _ _ => trivial, (hH.out.grown hg2 (fun k hk => hk.2) (by decide)).mono fun _ _ => trivial, (hS.out.grown hg2 (fun k hk => hk.2.2) (by decide)).mono fun _ hk => hk.1, below_grown hb.out hg2 hb.out.size l10.out, l9.out, l10.out⟩
          · clear hi
            refine ⟨_, rfl, by rfl, ?_⟩
            intro K hK
            go_simp
            have bb := (Below.refl u9.heap.size u9).alloc (Nat.le_refl _) (.cells #[.int .u8 0, .slice none 0 0] 56)
            have sm := smBlk (b1 := w.heap.size) (b2 := w.heap.size + 1) bb (by have := hb.out.size; have := HN7.out; have := hN2.out; omega) (by have := hb.out.size; have := HN7.out; have := hN2.out; omega)
            have l10 := Lib.hid hb.out.size
            have b10 := Lib.hid (alloc1 u9 (.cells #[.int .u8 0, .slice none 0 0] 56))
            replace hf := Lib.hid (hf.out.keep (w' := u9.alloc (.cells #[.int .u8 0, .slice none 0 0] 56)) fun k hk => bb.block k (Nat.lt_of_lt_of_le hk hM.out))
            replace hb := Lib.hid (hb.out.trans (bb.mono hb.out.size))
            replace hM := Lib.hid (Nat.le_trans hM.out bb.size)
            refine hK _ _ (.inr sm) ?_
            clear hK K sm bb
            try simp only [Act.put, List.setIfInBounds_toArray, List.set_cons_zero, List.set_cons_succ]
            generalize u9.alloc (.cells #[.int .u8 0, .slice none 0 0] 56) = u20 at b10 l10 hb hf hM ⊢
            generalize u9.heap.size = g10 at b10 l10 hb hf hM ⊢
            refine stepTA [7, 11] (by decide +kernel) (by decide) ?_
            intro i hi
            rcases (by simpa using hi : i = 7 ∨ i = 11) with rfl | rfl
            · clear hi
              refine ⟨_, rfl, by rfl, ?_⟩
              intro K hK
              go_simp
              refine (KRS.out u20 M hM.out hyM.out hb.out Af cf hf.out).mono ?_
              rintro e u21 ⟨v', F', A', c', rfl, ra, hw, hm⟩
              have bb := hm.belowN (N := u20.heap.size) (fun k hk => hk.elim) (Nat.le_refl _)
              have sm := smBlk (b1 := w.heap.size) (b2 := w.heap.size + 1) bb (by have := hb.out.size; have := HN7.out; have := hN2.out; omega) (by have := hb.out.size; have := HN7.out; have := hN2.out; omega)
              have hFy := Lib.hid (show ∀ k, F' k → y.heap.size ≤ k from fun k hk => (hm.new _ hk).elim (fun h => h.elim) (fun h => Nat.le_trans hb.out.size h))
              have n10 := Lib.hid (show ¬ F' g10 from fun hf => (hm.new _ hf).elim (fun h => h) (fun h => by have := block_lt b10.out; omega))
              replace b10 := Lib.hid ((bb.block _ (block_lt b10.out)).trans b10.out)
              replace hb := Lib.hid (hb.out.trans (bb.mono hb.out.size))
              replace hM := Lib.hid (Nat.le_trans hM.out bb.size)
              replace ra := Lib.hid ra
              replace hw := Lib.hid hw
              refine hK _ _ (.inr sm) ?_
              clear hK K sm bb hm hf
              try simp only [Act.put, List.setIfInBounds_toArray, List.set_cons_zero, List.set_cons_succ]
              ((first | (refine takeT 8 (v := ?_) rfl (by decide +kernel) (by decide +kernel) (by decide +kernel) (fun _ _ _ h => h) (by decide +kernel) (Or.inl ⟨by rfl, ?_⟩) ?_; rotate_left 1; (focus (intro W hW; have hcW := hW.at; (try dsimp only at hcW); go_simp; first | done | with_reducible rfl)); try simp only [Act.put, List.setIfInBounds_toArray, List.set_cons_zero, List.set_cons_succ]) | (refine takeW 8 (v := ?_) rfl (by decide +kernel) (by decide +kernel) (by decide +kernel) (fun _ _ _ h => h) (Or.inl ⟨by rfl, ?_⟩) ?_; rotate_left 1; (focus (intro W hW; go_simp; first | done | with_reducible rfl)); try simp only [Act.put, List.setIfInBounds_toArray, List.set_cons_zero, List.set_cons_succ]) | (refine takeW 8 rfl (by decide +kernel) (by decide +kernel) (by decide +kernel) (fun _ _ _ h => h) (Or.inr ⟨by rfl, rfl⟩) ?_; try simp only [Act.put, List.setIfInBounds_toArray, List.set_cons_zero, List.set_cons_succ]) | skip); (first | (refine takeT 9 (v := ?_) rfl (by decide +kernel) (by decide +kernel) (by decide +kernel) (fun _ _ _ h => h) (by decide +kernel) (Or.inl ⟨by rfl, ?_⟩) ?_; rotate_left 1; (focus (intro W hW; have hcW := hW.at; (try dsimp only at hcW); go_simp; first | done | with_reducible rfl)); try simp only [Act.put, List.setIfInBounds_toArray, List.set_cons_zero, List.set_cons_succ]) | (refine takeW 9 (v := ?_) rfl (by decide +kernel) (by decide +kernel) (by decide +kernel) (fun _ _ _ h => h) (Or.inl ⟨by rfl, ?_⟩) ?_; rotate_left 1; (focus (intro W hW; go_simp; first | done | with_reducible rfl)); try simp only [Act.put, List.setIfInBounds_toArray, List.set_cons_zero, List.set_cons_succ]) | (refine takeW 9 rfl (by decide +kernel) (by decide +kernel) (by decide +kernel) (fun _ _ _ h => h) (Or.inr ⟨by rfl, rfl⟩) ?_; try simp only [Act.put, List.setIfInBounds_toArray, List.set_cons_zero, List.set_cons_succ]) | skip); (first | (refine takeT 10 (v := ?_) rfl (by decide +kernel) (by decide +kernel) (by decide +kernel) (fun _ _ _ h => h) (by decide +kernel) (Or.inl ⟨by rfl, ?_⟩) ?_; rotate_left 1; (focus (intro W hW; have hcW := hW.at; (try dsimp only at hcW); go_simp; first | done | with_reducible rfl)); try simp only [Act.put, List.setIfInBounds_toArray, List.set_cons_zero, List.set_cons_succ]) | (refine takeW 10 (v := ?_) rfl (by decide +kernel) (by decide +kernel) (by decide +kernel) (fun _ _ _ h => h) (Or.inl ⟨by rfl, ?_⟩) ?_; rotate_left 1; (focus (intro W hW; go_simp; first | done | with_reducible rfl)); try simp only [Act.put, List.setIfInBounds_toArray, List.set_cons_zero, List.set_cons_succ]) | (refine takeW 10 rfl (by decide +kernel) (by decide +kernel) (by decide +kernel) (fun _ _ _ h => h) (Or.inr ⟨by rfl, rfl⟩) ?_; try simp only [Act.put, List.setIfInBounds_toArray, List.set_cons_zero, List.set_cons_succ]) | skip))
              refine stepTA [11] (by decide +kernel) (by decide) ?_
              intro i hi
              obtain rfl : i = 11 := by simpa using hi
              clear hi
              refine ⟨_, rfl, by rfl, ?_⟩
              intro K hK
              go_simp
              have bb := (Below.refl u21.heap.size u21).alloc (Nat.le_refl _) (.cells #[.slice none 0 0, .slice none 0 0, .slice none 0 0, .slice none 0 0] 67)
              have sm := smBlk (b1 := w.heap.size) (b2 := w.heap.size + 1) bb (by have := hb.out.size; have := HN7.out; have := hN2.out; omega) (by have := hb.out.size; have := HN7.out; have := hN2.out; omega)
              have l9 := Lib.hid hb.out.size
              have ne := Lib.hid (show g10 ≠ u21.heap.size from fun e => by have := block_lt b10.out; omega)
              replace b10 := Lib.hid ((bb.block _ (block_lt b10.out)).trans b10.out)
              have b9 := Lib.hid (alloc1 u21 (.cells #[.slice none 0 0, .slice none 0 0, .slice none 0 0, .slice none 0 0] 67))
              have n9 := Lib.hid (show ¬ F' u21.heap.size from fun hf => by have := ((rwA _ _ _).ge hw.out _ hf).2; omega)
              replace hw := Lib.hid (Asr.below hw.out bb hM.out)
              replace ra := Lib.hid (ra.out.keep (w' := u21.alloc (.cells #[.slice none 0 0, .slice none 0 0, .slice none 0 0, .slice none 0 0] 67)) fun k hk => bb.block k (Nat.lt_of_lt_of_le hk.2 hM.out))
              replace hb := Lib.hid (hb.out.trans (bb.mono hb.out.size))
              replace hM := Lib.hid (Nat.le_trans hM.out bb.size)
              refine hK _ _ (.inr sm) ?_
              clear hK K sm bb
              try simp only [Act.put, List.setIfInBounds_toArray, List.set_cons_zero, List.set_cons_succ]
              generalize u21.alloc (.cells #[.slice none 0 0, .slice none 0 0, .slice none 0 0, .slice none 0 0] 67) = u22 at b9 l9 hb ne b10 n9 hw ra hM ⊢
              generalize u21.heap.size = g9 at b9 l9 hb ne b10 n9 hw ra hM ⊢
              obtain ⟨Aa, ca, Af2, cf2, A2', c2', A3', c3', rfl, hw1, hw2, hw3, hw4, hw5, hw6⟩ := hw.out
              have hwy := Hw7.out.size
              have hH := Lib.hid (hw3.rdl.mono (G := fun k => k ≠ g9 ∧ k ≠ g10) fun k hk => hk.elim (fun h => by have := l9.out; have := l10.out; have h1 : k < w.heap.size := h.1; omega) (fun h => ⟨fun e => n9.out (by rw [← e]; exact (hw6 k).2 (.inl h)), fun e => n10.out (by rw [← e]; exact (hw6 k).2 (.inl h))⟩))
              have hS := Lib.hid (hw4.rdl.mono (G := fun k => (k < w.heap.size ∨ y.heap.size ≤ k) ∧ k ≠ g9 ∧ k ≠ g10) fun k hk => hk.elim (fun h => by have := l9.out; have := l10.out; have h1 : k < w.heap.size := h.1; omega) (fun h => ⟨.inr (hFy.out k ((hw6 k).2 (.inr h))), fun e => n9.out (by rw [← e]; exact (hw6 k).2 (.inr h)), fun e => n10.out (by rw [← e]; exact (hw6 k).2 (.inr h))⟩))
              have hA := Lib.hid (ra.out.mono (G := fun k => k ≠ g9 ∧ k ≠ g10) fun k hk => by have := l9.out; have := l10.out; have h1 : k < w.heap.size := hk.1; omega)
              have ne2 := Lib.hid (show g9 ≠ g10 from (fun e => ne.out e.symm))
              clear hw1 hw2 hw3 hw4 hw5 hw6 hw ra hwy hFy
              refine stepT 13 rfl (by decide +kernel) (by rfl) ?_
              intro K hK
              refine wp_storeB flatRw (.tmp 9) (.tmp 52) rfl g9 rfl _ rfl b9.out rfl rfl rfl ?_
              intro z1 k1 hg1 hs1
              refine hK _ _ (.inl (by decide)) ?_
              clear hK K
              try simp only [Act.put, List.setIfInBounds_toArray, List.set_cons_zero, List.set_cons_succ]
              have b10z := grown_block hg1 b10.out (fun e => ne2.out (by injection e with e; exact e.symm))
              replace hH := Lib.hid (hH.out.grown hg1 (fun k hk => hk.1) (by decide))
              replace hS := Lib.hid (hS.out.grown hg1 (fun k hk => hk.2.1) (by decide))
              replace hA := Lib.hid (hA.out.grown hg1 fun k hk => hk.1)
              replace hb := Lib.hid (below_grown hb.out hg1 hb.out.size l9.out)
              have K1 := Lib.hid k1
              clear k1 hg1 hs1
              refine stepT 14 rfl (by decide +kernel) (by rfl) ?_
              intro K hK
              refine wp_storeB flatOut (.tmp 10) (.tmp 53) rfl g10 rfl _ rfl b10z rfl rfl rfl ?_
              intro z2 k2 hg2 hs2
              refine hK _ _ (.inl (by decide)) ?_
              clear hK K
              try simp only [Act.put, List.setIfInBounds_toArray, List.set_cons_zero, List.set_cons_succ]
              refine doneT (by kernel_rfl) ?_
              refine ⟨g9, g10, Aa, ca, Af2, cf2, A2', c2', A3', c3', A', c', _, _, _, _, _, _, _, _, _, _, _, rfl, grown_block hg2 K1.out (fun e => ne2.out (by injection e)), k2, ?_⟩
              exact ⟨(hA.out.grown hg2 fun k hk => hk.2).mono fun _ _ => trivial, (hH.out.grown hg2 (fun k hk => hk.2) (by decide)).mono fun _ _ => trivial, (hS.out.grown hg2 (fun k hk => hk.2.2) (by decide)).mono fun _ hk => hk.1, below_grown hb.out hg2 hb.out.size l10.out, l9.out, l10.out⟩
            · clear hi
              refine ⟨_, rfl, by rfl, ?_⟩
              intro K hK
              go_simp
              have bb := (Below.refl u20.heap.size u20).alloc (Nat.le_refl _) (.cells #[.slice none 0 0, .slice none 0 0, .slice none 0 0, .slice none 0 0] 67)
              have sm := smBlk (b1 := w.heap.size) (b2 := w.heap.size + 1) bb (by have := hb.out.size; have := HN7.out; have := hN2.out; omega) (by have := hb.out.size; have := HN7.out; have := hN2.out; omega)
              have l9 := Lib.hid hb.out.size
              have ne := Lib.hid (show g10 ≠ u20.heap.size from fun e => by have := block_lt b10.out; omega)
              replace b10 := Lib.hid ((bb.block _ (block_lt b10.out)).trans b10.out)
              have b9 := Lib.hid (alloc1 u20 (.cells #[.slice none 0 0, .slice none 0 0, .slice none 0 0, .slice none 0 0] 67))
              replace hf := Lib.hid (hf.out.keep (w' := u20.alloc (.cells #[.slice none 0 0, .slice none 0 0, .slice none 0 0, .slice none 0 0] 67)) fun k hk => bb.block k (Nat.lt_of_lt_of_le hk hM.out))
              replace hb := Lib.hid (hb.out.trans (bb.mono hb.out.size))
              replace hM := Lib.hid (Nat.le_trans hM.out bb.size)
              refine hK _ _ (.inr sm) ?_
              clear hK K sm bb
              try simp only [Act.put, List.setIfInBounds_toArray, List.set_cons_zero, List.set_cons_succ]
              generalize u20.alloc (.cells #[.slice none 0 0, .slice none 0 0, .slice none 0 0, .slice none 0 0] 67) = u23 at b9 l9 hb ne b10 hf hM ⊢
              generalize u20.heap.size = g9 at b9 l9 hb ne b10 hf hM ⊢
              refine stepTA [7] (by decide +kernel) (by decide) ?_
              intro i hi
              obtain rfl : i = 7 := by simpa using hi
              clear hi
              refine ⟨_, rfl, by rfl, ?_⟩
              intro K hK
              go_simp
              refine (KRS.out u23 M hM.out hyM.out hb.out Af cf hf.out).mono ?_
              rintro e u24 ⟨v', F', A', c', rfl, ra, hw, hm⟩
              have bb := hm.belowN (N := u23.heap.size) (fun k hk => hk.elim) (Nat.le_refl _)
              have sm := smBlk (b1 := w.heap.size) (b2 := w.heap.size + 1) bb (by have := hb.out.size; have := HN7.out; have := hN2.out; omega) (by have := hb.out.size; have := HN7.out; have := hN2.out; omega)
              have hFy := Lib.hid (show ∀ k, F' k → y.heap.size ≤ k from fun k hk => (hm.new _ hk).elim (fun h => h.elim) (fun h => Nat.le_trans hb.out.size h))
              have n9 := Lib.hid (show ¬ F' g9 from fun hf => (hm.new _ hf).elim (fun h => h) (fun h => by have := block_lt b9.out; omega))
              replace b9 := Lib.hid ((bb.block _ (block_lt b9.out)).trans b9.out)
              have n10 := Lib.hid (show ¬ F' g10 from fun hf => (hm.new _ hf).elim (fun h => h) (fun h => by have := block_lt b10.out; omega))
              replace b10 := Lib.hid ((bb.block _ (block_lt b10.out)).trans b10.out)
              replace hb := Lib.hid (hb.out.trans (bb.mono hb.out.size))
              replace hM := Lib.hid (Nat.le_trans hM.out bb.size)
              replace ra := Lib.hid ra
              replace hw := Lib.hid hw
              refine hK _ _ (.inr sm) ?_
              clear hK K sm bb hm hf
              try simp only [Act.put, List.setIfInBounds_toArray, List.set_cons_zero, List.set_cons_succ]
              ((first | (refine takeT 8 (v := ?_) rfl (by decide +kernel) (by decide +kernel) (by decide +kernel) (fun _ _ _ h => h) (by decide +kernel) (Or.inl ⟨by rfl, ?_⟩) ?_; rotate_left 1; (focus (intro W hW; have hcW := hW.at; (try dsimp only at hcW); go_simp; first | done | with_reducible rfl)); try simp only [Act.put, List.setIfInBounds_toArray, List.set_cons_zero, List.set_cons_succ]) | (refine takeW 8 (v := ?_) rfl (by decide +kernel) (by decide +kernel) (by decide +kernel) (fun _ _ _ h => h) (Or.inl ⟨by rfl, ?_⟩) ?_; rotate_left 1; (focus (intro W hW; go_simp; first | done | with_reducible rfl)); try simp only [Act.put, List.setIfInBounds_toArray, List.set_cons_zero, List.set_cons_succ]) | (refine takeW 8 rfl (by decide +kernel) (by decide +kernel) (by decide +kernel) (fun _ _ _ h => h) (Or.inr ⟨by rfl, rfl⟩) ?_; try simp only [Act.put, List.setIfInBounds_toArray, List.set_cons_zero, List.set_cons_succ]) | skip); (first | (refine takeT 9 (v := ?_) rfl (by decide +kernel) (by decide +kernel) (by decide +kernel) (fun _ _ _ h => h) (by decide +kernel) (Or.inl ⟨by rfl, ?_⟩) ?_; rotate_left 1; (focus (intro W hW; have hcW := hW.at; (try dsimp only at hcW); go_simp; first | done | with_reducible rfl)); try simp only [Act.put, List.setIfInBounds_toArray, List.set_cons_zero, List.set_cons_succ]) | (refine takeW 9 (v := ?_) rfl (by decide +kernel) (by decide +kernel) (by decide +kernel) (fun _ _ _ h => h) (Or.inl ⟨by rfl, ?_⟩) ?_; rotate_left 1; (focus (intro W hW; go_simp; first | done | with_reducible rfl)); try simp only [Act.put, List.setIfInBounds_toArray, List.set_cons_zero, List.set_cons_succ]) | (refine takeW 9 rfl (by decide +kernel) (by decide +kernel) (by decide +kernel) (fun _ _ _ h => h) (Or.inr ⟨by rfl, rfl⟩) ?_; try simp only [Act.put, List.setIfInBounds_toArray, List.set_cons_zero, List.set_cons_succ]) | skip); (first | (refine takeT 10 (v := ?_) rfl (by decide +kernel) (by decide +kernel) (by decide +kernel) (fun _ _ _ h => h) (by decide +kernel) (Or.inl ⟨by rfl, ?_⟩) ?_; rotate_left 1; (focus (intro W hW; have hcW := hW.at; (try dsimp only at hcW); go_simp; first | done | with_reducible rfl)); try simp only [Act.put, List.setIfInBounds_toArray, List.set_cons_zero, List.set_cons_succ]) | (refine takeW 10 (v := ?_) rfl (by decide +kernel) (by decide +kernel) (by decide +kernel) (fun _ _ _ h => h) (Or.inl ⟨by rfl, ?_⟩) ?_; rotate_left 1; (focus (intro W hW; go_simp; first | done | with_reducible rfl)); try simp only [Act.put, List.setIfInBounds_toArray, List.set_cons_zero, List.set_cons_succ]) | (refine takeW 10 rfl (by decide +kernel) (by decide +kernel) (by decide +kernel) (fun _ _ _ h => h) (Or.inr ⟨by rfl, rfl⟩) ?_; try simp only [Act.put, List.setIfInBounds_toArray, List.set_cons_zero, List.set_cons_succ]) | skip))
              obtain ⟨Aa, ca, Af2, cf2, A2', c2', A3', c3', rfl, hw1, hw2, hw3, hw4, hw5, hw6⟩ := hw.out
              have hwy := Hw7.out.size
              have hH := Lib.hid (hw3.rdl.mono (G := fun k => k ≠ g9 ∧ k ≠ g10) fun k hk => hk.elim (fun h => by have := l9.out; have := l10.out; have h1 : k < w.heap.size := h.1; omega) (fun h => ⟨fun e => n9.out (by rw [← e]; exact (hw6 k).2 (.inl h)), fun e => n10.out (by rw [← e]; exact (hw6 k).2 (.inl h))⟩))
              have hS := Lib.hid (hw4.rdl.mono (G := fun k => (k < w.heap.size ∨ y.heap.size ≤ k) ∧ k ≠ g9 ∧ k ≠ g10) fun k hk => hk.elim (fun h => by have := l9.out; have := l10.out; have h1 : k < w.heap.size := h.1; omega) (fun h => ⟨.inr (hFy.out k ((hw6 k).2 (.inr h))), fun e => n9.out (by rw [← e]; exact (hw6 k).2 (.inr h)), fun e => n10.out (by rw [← e]; exact (hw6 k).2 (.inr h))⟩))
              have hA := Lib.hid (ra.out.mono (G := fun k => k ≠ g9 ∧ k ≠ g10) fun k hk => by have := l9.out; have := l10.out; have h1 : k < w.heap.size := hk.1; omega)
              have ne2 := Lib.hid (show g9 ≠ g10 from (fun e => ne.out e.symm))
              clear hw1 hw2 hw3 hw4 hw5 hw6 hw ra hwy hFy
              refine stepT 13 rfl (by decide +kernel) (by rfl) ?_
              intro K hK
              refine wp_storeB flatRw (.tmp 9) (.tmp 52) rfl g9 rfl _ rfl b9.out rfl rfl rfl ?_
              intro z1 k1 hg1 hs1
              refine hK _ _ (.inl (by decide)) ?_
              clear hK K
              try simp only [Act.put, List.setIfInBounds_toArray, List.set_cons_zero, List.set_cons_succ]
              have b10z := grown_block hg1 b10.out (fun e => ne2.out (by injection e with e; exact e.symm))
              replace hH := Lib.hid (hH.out.grown hg1 (fun k hk => hk.1) (by decide))
              replace hS := Lib.hid (hS.out.grown hg1 (fun k hk => hk.2.1) (by decide))
              replace hA := Lib.hid (hA.out.grown hg1 fun k hk => hk.1)
              replace hb := Lib.hid (below_grown hb.out hg1 hb.out.size l9.out)
              have K1 := Lib.hid k1
              clear k1 hg1 hs1
              refine stepT 14 rfl (by decide +kernel) (by rfl) ?_
              intro K hK
              refine wp_storeB flatOut (.tmp 10) (.tmp 53) rfl g10 rfl _ rfl b10z rfl rfl rfl ?_
              intro z2 k2 hg2 hs2
              refine hK _ _ (.inl (by decide)) ?_
              clear hK K
              try simp only [Act.put, List.setIfInBounds_toArray, List.set_cons_zero, List.set_cons_succ]
              refine doneT (by kernel_rfl) ?_
              refine ⟨g9, g10, Aa, ca, Af2, cf2, A2', c2', A3', c3', A', c', _, _, _, _, _, _, _, _, _, _, _, rfl, grown_block hg2 K1.out (fun e => ne2.out (by injection e)), k2, ?_⟩
              exact ⟨(hA.out.grown hg2 fun k hk => hk.2).mono fun _ _ => trivial, (hH.out.grown hg2 (fun k hk => hk.2) (by decide)).mono fun _ _ => trivial, (hS.out.grown hg2 (fun k hk => hk.2.2) (by decide)).mono fun _ hk => hk.1, below_grown hb.out hg2 hb.out.size l10.out, l9.out, l10.out⟩
        · clear hi
          refine ⟨_, rfl, by rfl, ?_⟩
          intro K hK
          go_simp
          have bb := (Below.refl x0.heap.size x0).alloc (Nat.le_refl _) (.cells #[.slice none 0 0, .slice none 0 0, .slice none 0 0, .slice none 0 0] 67)
          have sm := smBlk (b1 := w.heap.size) (b2 := w.heap.size + 1) bb (by have := hb.out.size; have := HN7.out; have := hN2.out; omega) (by have := hb.out.size; have := HN7.out; have := hN2.out; omega)
          have l9 := Lib.hid hb.out.size
          have b9 := Lib.hid (alloc1 x0 (.cells #[.slice none 0 0, .slice none 0 0, .slice none 0 0, .slice none 0 0] 67))
          replace hb := Lib.hid (hb.out.trans (bb.mono hb.out.size))
          refine hK _ _ (.inr sm) ?_
          clear hK K sm bb
          try simp only [Act.put, List.setIfInBounds_toArray, List.set_cons_zero, List.set_cons_succ]
          generalize x0.alloc (.cells #[.slice none 0 0, .slice none 0 0, .slice none 0 0, .slice none 0 0] 67) = u25 at b9 l9 hb ⊢
          generalize x0.heap.size = g9 at b9 l9 hb ⊢
          refine stepTA [4, 12] (by decide +kernel) (by decide) ?_
          intro i hi
          rcases (by simpa using hi : i = 4 ∨ i = 12) with rfl | rfl
          · clear hi
            refine ⟨_, rfl, by rfl, ?_⟩
            intro K hK
            go_simp
            refine (KF.out u25 hb.out).mono ?_
            rintro e u26 ⟨v, rfl, ho, bb⟩
            obtain ⟨Af, cf, rfl, hf⟩ := RdS.of_own ho
            have sm := smBlk (b1 := w.heap.size) (b2 := w.heap.size + 1) bb (by have := hb.out.size; have := HN7.out; have := hN2.out; omega) (by have := hb.out.size; have := HN7.out; have := hN2.out; omega)
            replace b9 := Lib.hid ((bb.block _ (block_lt b9.out)).trans b9.out)
            replace hb := Lib.hid (hb.out.trans (bb.mono hb.out.size))
            refine hK _ _ (.inr sm) ?_
            clear hK K sm bb ho
            try simp only [Act.put, List.setIfInBounds_toArray, List.set_cons_zero, List.set_cons_succ]
            have hyM := Lib.hid hb.out.size
            replace hf := Lib.hid (hf.mono (G := fun k => k < u26.heap.size) fun k hk => hk.2)
            obtain ⟨M, hMe⟩ : ∃ M, u26.heap.size = M := ⟨_, rfl⟩
            rw [hMe] at hyM hf
            have hM := Lib.hid (Nat.le_of_eq hMe.symm)
            clear hMe
            ((first | (refine takeT 5 (v := ?_) rfl (by decide +kernel) (by decide +kernel) (by decide +kernel) (fun _ _ _ h => h) (by decide +kernel) (Or.inl ⟨by rfl, ?_⟩) ?_; rotate_left 1; (focus (intro W hW; have hcW := hW.at; (try dsimp only at hcW); go_simp; first | done | with_reducible rfl)); try simp only [Act.put, List.setIfInBounds_toArray, List.set_cons_zero, List.set_cons_succ]) | (refine takeW 5 (v := ?_) rfl (by decide +kernel) (by decide +kernel) (by decide +kernel) (fun _ _ _ h => h) (Or.inl ⟨by rfl, ?_⟩) ?_; rotate_left 1; (focus (intro W hW; go_simp; first | done | with_reducible rfl)); try simp only [Act.put, List.setIfInBounds_toArray, List.set_cons_zero, List.set_cons_succ]) | (refine takeW 5 rfl (by decide +kernel) (by decide +kernel) (by decide +kernel) (fun _ _ _ h => h) (Or.inr ⟨by rfl, rfl⟩) ?_; try simp only [Act.put, List.setIfInBounds_toArray, List.set_cons_zero, List.set_cons_succ]) | skip))
            refine stepTA [7, 12] (by decide +kernel) (by decide) ?_
            intro i hi
            rcases (by simpa using hi : i = 7 ∨ i = 12) with rfl | rfl
            · clear hi
              refine ⟨_, rfl, by rfl, ?_⟩
              intro K hK
              go_simp
              refine (KRS.out u26 M hM.out hyM.out hb.out Af cf hf.out).mono ?_
              rintro e u27 ⟨v', F', A', c', rfl, ra, hw, hm⟩
              have bb := hm.belowN (N := u26.heap.size) (fun k hk => hk.elim) (Nat.le_refl _)
              have sm := smBlk (b1 := w.heap.size) (b2 := w.heap.size + 1) bb (by have := hb.out.size; have := HN7.out; have := hN2.out; omega) (by have := hb.out.size; have := HN7.out; have := hN2.out; omega)
              have hFy := Lib.hid (show ∀ k, F' k → y.heap.size ≤ k from fun k hk => (hm.new _ hk).elim (fun h => h.elim) (fun h => Nat.le_trans hb.out.size h))
              have n9 := Lib.hid (show ¬ F' g9 from fun hf => (hm.new _ hf).elim (fun h => h) (fun h => by have := block_lt b9.out; omega))
              replace b9 := Lib.hid ((bb.block _ (block_lt b9.out)).trans b9.out)
              replace hb := Lib.hid (hb.out.trans (bb.mono hb.out.size))
              replace hM := Lib.hid (Nat.le_trans hM.out bb.size)
              replace ra := Lib.hid ra
              replace hw := Lib.hid hw
              refine hK _ _ (.inr sm) ?_
              clear hK K sm bb hm hf
              try simp only [Act.put, List.setIfInBounds_toArray, List.set_cons_zero, List.set_cons_succ]
              ((first | (refine takeT 8 (v := ?_) rfl (by decide +kernel) (by decide +kernel) (by decide +kernel) (fun _ _ _ h => h) (by decide +kernel) (Or.inl ⟨by rfl, ?_⟩) ?_; rotate_left 1; (focus (intro W hW; have hcW := hW.at; (try dsimp only at hcW); go_simp; first | done | with_reducible rfl)); try simp only [Act.put, List.setIfInBounds_toArray, List.set_cons_zero, List.set_cons_succ]) | (refine takeW 8 (v := ?_) rfl (by decide +kernel) (by decide +kernel) (by decide +kernel) (fun _ _ _ h => h) (Or.inl ⟨by rfl, ?_⟩) ?_; rotate_left 1; (focus (intro W hW; go_simp; first | done | with_reducible rfl)); try simp only [Act.put, List.setIfInBounds_toArray, List.set_cons_zero, List.set_cons_succ]) | (refine takeW 8 rfl (by decide +kernel) (by decide +kernel) (by decide +kernel) (fun _ _ _ h => h) (Or.inr ⟨by rfl, rfl⟩) ?_; try simp only [Act.put, List.setIfInBounds_toArray, List.set_cons_zero, List.set_cons_succ]) | skip); (first | (refine takeT 9 (v := ?_) rfl (by decide +kernel) (by decide +kernel) (by decide +kernel) (fun _ _ _ h => h) (by decide +kernel) (Or.inl ⟨by rfl, ?_⟩) ?_; rotate_left 1; (focus (intro W hW; have hcW := hW.at; (try dsimp only at hcW); go_simp; first | done | with_reducible rfl)); try simp only [Act.put, List.setIfInBounds_toArray, List.set_cons_zero, List.set_cons_succ]) | (refine takeW 9 (v := ?_) rfl (by decide +kernel) (by decide +kernel) (by decide +kernel) (fun _ _ _ h => h) (Or.inl ⟨by rfl, ?_⟩) ?_; rotate_left 1; (focus (intro W hW; go_simp; first | done | with_reducible rfl)); try simp only [Act.put, List.setIfInBounds_toArray, List.set_cons_zero, List.set_cons_succ]) | (refine takeW 9 rfl (by decide +kernel) (by decide +kernel) (by decide +kernel) (fun _ _ _ h => h) (Or.inr ⟨by rfl, rfl⟩) ?_; try simp only [Act.put, List.setIfInBounds_toArray, List.set_cons_zero, List.set_cons_succ]) | skip); (first | (refine takeT 10 (v := ?_) rfl (by decide +kernel) (by decide +kernel) (by decide +kernel) (fun _ _ _ h => h) (by decide +kernel) (Or.inl ⟨by rfl, ?_⟩) ?_; rotate_left 1; (focus (intro W hW; have hcW := hW.at; (try dsimp only at hcW); go_simp; first | done | with_reducible rfl)); try simp only [Act.put, List.setIfInBounds_toArray, List.set_cons_zero, List.set_cons_succ]) | (refine takeW 10 (v := ?_) rfl (by decide +kernel) (by decide +kernel) (by decide +kernel) (fun _ _ _ h => h) (Or.inl ⟨by rfl, ?_⟩) ?_; rotate_left 1; (focus (intro W hW; go_simp; first | done | with_reducible rfl)); try simp only [Act.put, List.setIfInBounds_toArray, List.set_cons_zero, List.set_cons_succ]) | (refine takeW 10 rfl (by decide +kernel) (by decide +kernel) (by decide +kernel) (fun _ _ _ h => h) (Or.inr ⟨by rfl, rfl⟩) ?_; try simp only [Act.put, List.setIfInBounds_toArray, List.set_cons_zero, List.set_cons_succ]) | skip))
              refine stepTA [12] (by decide +kernel) (by decide) ?_
              intro i hi
              obtain rfl : i = 12 := by simpa using hi
              clear hi
              refine ⟨_, rfl, by rfl, ?_⟩
              intro K hK
              go_simp
              have bb := (Below.refl u27.heap.size u27).alloc (Nat.le_refl _) (.cells #[.int .u8 0, .slice none 0 0] 56)
              have sm := smBlk (b1 := w.heap.size) (b2 := w.heap.size + 1) bb (by have := hb.out.size; have := HN7.out; have := hN2.out; omega) (by have := hb.out.size; have := HN7.out; have := hN2.out; omega)
              have l10 := Lib.hid hb.out.size
              have ne := Lib.hid (show g9 ≠ u27.heap.size from fun e => by have := block_lt b9.out; omega)
              replace b9 := Lib.hid ((bb.block _ (block_lt b9.out)).trans b9.out)
              have b10 := Lib.hid (alloc1 u27 (.cells #[.int .u8 0, .slice none 0 0] 56))
              have n10 := Lib.hid (show ¬ F' u27.heap.size from fun hf => by have := ((rwA _ _ _).ge hw.out _ hf).2; omega)
              replace hw := Lib.hid (Asr.below hw.out bb hM.out)
              replace ra := Lib.hid (ra.out.keep (w' := u27.alloc (.cells #[.int .u8 0, .slice none 0 0] 56)) fun k hk => bb.block k (Nat.lt_of_lt_of_le hk.2 hM.out))
              replace hb := Lib.hid (hb.out.trans (bb.mono hb.out.size))
              replace hM := Lib.hid (Nat.le_trans hM.out bb.size)
              refine hK _ _ (.inr sm) ?_
              clear hK K sm bb
              try simp only [Act.put, List.setIfInBounds_toArray, List.set_cons_zero, List.set_cons_succ]
              generalize u27.alloc (.cells #[.int .u8 0, .slice none 0 0] 56) = u28 at b10 l10 hb ne b9 n10 hw ra hM ⊢
              generalize u27.heap.size = g10 at b10 l10 hb ne b9 n10 hw ra hM ⊢
              obtain ⟨Aa, ca, Af2, cf2, A2', c2', A3', c3', rfl, hw1, hw2, hw3, hw4, hw5, hw6⟩ := hw.out
              have hwy := Hw7.out.size
              have hH := Lib.hid (hw3.rdl.mono (G := fun k => k ≠ g9 ∧ k ≠ g10) fun k hk => hk.elim (fun h => by have := l9.out; have := l10.out; have h1 : k < w.heap.size := h.1; omega) (fun h => ⟨fun e => n9.out (by rw [← e]; exact (hw6 k).2 (.inl h)), fun e => n10.out (by rw [← e]; exact (hw6 k).2 (.inl h))⟩))
              have hS := Lib.hid (hw4.rdl.mono (G := fun k => (k < w.heap.size ∨ y.heap.size ≤ k) ∧ k ≠ g9 ∧ k ≠ g10) fun k hk => hk.elim (fun h => by have := l9.out; have := l10.out; have h1 : k < w.heap.size := h.1; omega) (fun h => ⟨.inr (hFy.out k ((hw6 k).2 (.inr h))), fun e => n9.out (by rw [← e]; exact (hw6 k).2 (.inr h)), fun e => n10.out (by rw [← e]; exact (hw6 k).2 (.inr h))⟩))
              have hA := Lib.hid (ra.out.mono (G := fun k => k ≠ g9 ∧ k ≠ g10) fun k hk => by have := l9.out; have := l10.out; have h1 : k < w.heap.size := hk.1; omega)
              have ne2 := Lib.hid (show g9 ≠ g10 from ne.out)
              clear hw1 hw2 hw3 hw4 hw5 hw6 hw ra hwy hFy
              refine stepT 13 rfl (by decide +kernel) (by rfl) ?_
              intro K hK
              refine wp_storeB flatRw (.tmp 9) (.tmp 52) rfl g9 rfl _ rfl b9.out rfl rfl rfl ?_
              intro z1 k1 hg1 hs1
              refine hK _ _ (.inl (by decide)) ?_
              clear hK K
              try simp only [Act.put, List.setIfInBounds_toArray, List.set_cons_zero, List.set_cons_succ]
              have b10z := grown_block hg1 b10.out (fun e => ne2.out (by injection e with e; exact e.symm))
              replace hH := Lib.hid (hH.out.grown hg1 (fun k hk => hk.1) (by decide))
              replace hS := Lib.hid (hS.out.grown hg1 (fun k hk => hk.2.1) (by decide))
              replace hA := Lib.hid (hA.out.grown hg1 fun k hk => hk.1)
              replace hb := Lib.hid (below_grown hb.out hg1 hb.out.size l9.out)
              have K1 := Lib.hid k1
              clear k1 hg1 hs1
              refine stepT 14 rfl (by decide +kernel) (by rfl) ?_
              intro K hK
              refine wp_storeB flatOut (.tmp 10) (.tmp 53) rfl g10 rfl _ rfl b10z rfl rfl rfl ?_
              intro z2 k2 hg2 hs2
              refine hK _ _ (.inl (by decide)) ?_
              clear hK K
              try simp only [Act.put, List.setIfInBounds_toArray, List.set_cons_zero, List.set_cons_succ]
              refine doneT (by kernel_rfl) ?_
              refine ⟨g9, g10, Aa, ca, Af2, cf2, A2', c2', A3', c3', A', c', _, _, _, _, _, _, _, _, _, _, _, rfl, grown_block hg2 K1.out (fun e => ne2.out (by injection e)), k2, ?_⟩
              exact ⟨(hA.out.grown hg2 fun k hk => hk.2).mono fun _ _ => trivial, (hH.out.grown hg2 (fun k hk => hk.2) (by decide)).mono fun _ _ => trivial, (hS.out.grown hg2 (fun k hk => hk.2.2) (by decide)).mono fun _ hk => hk.1, below_grown hb.out hg2 hb.out.size l10.out, l9.out, l10.out⟩
            · clear hi
              refine ⟨_, rfl, by rfl, ?_⟩
              intro K hK
              go_simp
              have bb := (Below.refl u26.heap.size u26).alloc (Nat.le_refl _) (.cells #[.int .u8 0, .slice none 0 0] 56)
              have sm := smBlk (b1 := w.heap.size) (b2 := w.heap.size + 1) bb (by have := hb.out.size; have := HN7.out; have := hN2.out; omega) (by have := hb.out.size; have := HN7.out; have := hN2.out; omega)
              have l10 := Lib.hid hb.out.size
              have ne := Lib.hid (show g9 ≠ u26.heap.size from fun e => by have := block_lt b9.out; omega)
              replace b9 := Lib.hid ((bb.block _ (block_lt b9.out)).trans b9.out)
              have b10 := Lib.hid (alloc1 u26 (.cells #[.int .u8 0, .slice none 0 0] 56))
              replace hf := Lib.hid (hf.out.keep (w' := u26.alloc (.cells #[.int .u8 0, .slice none 0 0] 56)) fun k hk => bb.block k (Nat.lt_of_lt_of_le hk hM.out))
              replace hb := Lib.hid (hb.out.trans (bb.mono hb.out.size))
              replace hM := Lib.hid (Nat.le_trans hM.out bb.size)
              refine hK _ _ (.inr sm) ?_
              clear hK K sm bb
              try simp only [Act.put, List.setIfInBounds_toArray, List.set_cons_zero, List.set_cons_succ]
              generalize u26.alloc (.cells #[.int .u8 0, .slice none 0 0] 56) = u29 at b10 l10 hb ne b9 hf hM ⊢
              generalize u26.heap.size = g10 at b10 l10 hb ne b9 hf hM ⊢
              refine stepTA [7] (by decide +kernel) (by decide) ?_
              intro i hi
              obtain rfl : i = 7 := by simpa using hi
              clear hi
              refine ⟨_, rfl, by rfl, ?_⟩
              intro K hK
              go_simp
              refine (KRS.out u29 M hM.out hyM.out hb.out Af cf hf.out).mono ?_
              rintro e u30 ⟨v', F', A', c', rfl, ra, hw, hm⟩
              have bb := hm.belowN (N := u29.heap.size) (fun k hk => hk.elim) (Nat.le_refl _)
              have sm := smBlk (b1 := w.heap.size) (b2 := w.heap.size + 1) bb (by have := hb.out.size; have := HN7.out; have := hN2.out; omega) (by have := hb.out.size; have := HN7.out; have := hN2.out; omega)
              have hFy := Lib.hid (show ∀ k, F' k → y.heap.size ≤ k from fun k hk => (hm.new _ hk).elim (fun h => h.elim) (fun h => Nat.le_trans hb.out.size h))
              have n9 := Lib.hid (show ¬ F' g9 from fun hf => (hm.new _ hf).elim (fun h => h) (fun h => by have := block_lt b9.out; omega))
              replace b9 := Lib.hid ((bb.block _ (block_lt b9.out)).trans b9.out)
              have n10 := Lib.hid (show ¬ F' g10 from fun hf => (hm.new _ hf).elim (fun h => h) (fun h => by have := block_lt b10.out; omega))
              replace b10 := Lib.hid ((bb.block _ (block_lt b10.out)).trans b10.out)
              replace hb := Lib.hid (hb.out.trans (bb.mono hb.out.size))
              replace hM := Lib.hid (Nat.le_trans hM.out bb.size)
              replace ra := Lib.hid ra
              replace hw := Lib.hid hw
              refine hK _ _ (.inr sm) ?_
              clear hK K sm bb hm hf
              try simp only [Act.put, List.setIfInBounds_toArray, List.set_cons_zero, List.set_cons_succ]
              ((first | (refine takeT 8 (v := ?_) rfl (by decide +kernel) (by decide +kernel) (by decide +kernel) (fun _ _ _ h => h) (by decide +kernel) (Or.inl ⟨by rfl, ?_⟩) ?_; rotate_left 1; (focus (intro W hW; have hcW := hW.at; (try dsimp only at hcW); go_simp; first | done | with_reducible rfl)); try simp only [Act.put, List.setIfInBounds_toArray, List.set_cons_zero, List.set_cons_succ]) | (refine takeW 8 (v := ?_) rfl (by decide +kernel) (by decide +kernel) (by decide +kernel) (fun _ _ _ h => h) (Or.inl ⟨by rfl, ?_⟩) ?_; rotate_left 1; (focus (intro W hW; go_simp; first | done | with_reducible rfl)); try simp only [Act.put, List.setIfInBounds_toArray, List.set_cons_zero, List.set_cons_succ]) | (refine takeW 8 rfl (by decide +kernel) (by decide +kernel) (by decide +kernel) (fun _ _ _ h => h) (Or.inr ⟨by rfl, rfl⟩) ?_; try simp only [Act.put, List.setIfInBounds_toArray, List.set_cons_zero, List.set_cons_succ]) | skip); (first | (refine takeT 9 (v := ?_) rfl (by decide +kernel) (by decide +kernel) (by decide +kernel) (fun _ _ _ h => h) (by decide +kernel) (Or.inl ⟨by rfl, ?_⟩) ?_; rotate_left 1; (focus (intro W hW; have hcW := hW.at; (try dsimp only at hcW); go_simp; first | done | with_reducible rfl)); try simp only [Act.put, List.setIfInBounds_toArray, List.set_cons_zero, List.set_cons_succ]) | (refine takeW 9 (v := ?_) rfl (by decide +kernel) (by decide +kernel) (by decide +kernel) (fun _ _ _ h => h) (Or.inl ⟨by rfl, ?_⟩) ?_; rotate_left 1; (focus (intro W hW; go_simp; first | done | with_reducible rfl)); try simp only [Act.put, List.setIfInBounds_toArray, List.set_cons_zero, List.set_cons_succ]) | (refine takeW 9 rfl (by decide +kernel) (by decide +kernel) (by decide +kernel) (fun _ _ _ h => h) (Or.inr ⟨by rfl, rfl⟩) ?_; try simp only [Act.put, List.setIfInBounds_toArray, List.set_cons_zero, List.set_cons_succ]) | skip); (first | (refine takeT 10 (v := ?_) rfl (by decide +kernel) (by decide +kernel) (by decide +kernel) (fun _ _ _ h => h) (by decide +kernel) (Or.inl ⟨by rfl, ?_⟩) ?_; rotate_left 1; (focus (intro W hW; have hcW := hW.at; (try dsimp only at hcW); go_simp; first | done | with_reducible rfl)); try simp only [Act.put, List.setIfInBounds_toArray, List.set_cons_zero, List.set_cons_succ]) | (refine takeW 10 (v := ?_) rfl (by decide +kernel) (by decide +kernel) (by decide +kernel) (fun _ _ _ h => h) (Or.inl ⟨by rfl, ?_⟩) ?_; rotate_left 1; (focus (intro W hW; go_simp; first | done | with_reducible rfl)); try simp only [Act.put, List.setIfInBounds_toArray, List.set_cons_zero, List.set_cons_succ]) | (refine takeW 10 rfl (by decide +kernel) (by decide +kernel) (by decide +kernel) (fun _ _ _ h => h) (Or.inr ⟨by rfl, rfl⟩) ?_; try simp only [Act.put, List.setIfInBounds_toArray, List.set_cons_zero, List.set_cons_succ]) | skip))
              obtain ⟨Aa, ca, Af2, cf2, A2', c2', A3', c3', rfl, hw1, hw2, hw3, hw4, hw5, hw6⟩ := hw.out
              have hwy := Hw7.out.size
              have hH := Lib.hid (hw3.rdl.mono (G := fun k => k ≠ g9 ∧ k ≠ g10) fun k hk => hk.elim (fun h => by have := l9.out; have := l10.out; have h1 : k < w.heap.size := h.1; omega) (fun h => ⟨fun e => n9.out (by rw [← e]; exact (hw6 k).2 (.inl h)), fun e => n10.out (by rw [← e]; exact (hw6 k).2 (.inl h))⟩))
              have hS := Lib.hid (hw4.rdl.mono (G := fun k => (k < w.heap.size ∨ y.heap.size ≤ k) ∧ k ≠ g9 ∧ k ≠ g10) fun k hk => hk.elim (fun h => by have := l9.out; have := l10.out; have h1 : k < w.heap.size := h.1; omega) (fun h => ⟨.inr (hFy.out k ((hw6 k).2 (.inr h))), fun e => n9.out (by rw [← e]; exact (hw6 k).2 (.inr h)), fun e => n10.out (by rw [← e]; exact (hw6 k).2 (.inr h))⟩))
              have hA := Lib.hid (ra.out.mono (G := fun k => k ≠ g9 ∧ k ≠ g10) fun k hk => by have := l9.out; have := l10.out; have h1 : k < w.heap.size := hk.1; omega)
              have ne2 := Lib.hid (show g9 ≠ g10 from ne.out)
              clear hw1 hw2 hw3 hw4 hw5 hw6 hw ra hwy hFy
              refine stepT 13 rfl (by decide +kernel) (by rfl) ?_
              intro K hK
              refine wp_storeB flatRw (.tmp 9) (.tmp 52) rfl g9 rfl _ rfl b9.out rfl rfl rfl ?_
              intro z1 k1 hg1 hs1
              refine hK _ _ (.inl (by decide)) ?_
              clear hK K
              try simp only [Act.put, List.setIfInBounds_toArray, List.set_cons_zero, List.set_cons_succ]
              have b10z := grown_block hg1 b10.out (fun e => ne2.out (by injection e with e; exact e.symm))
              replace hH := Lib.hid (hH.out.grown hg1 (fun k hk => hk.1) (by decide))
              replace hS := Lib.hid (hS.out.grown hg1 (fun k hk => hk.2.1) (by decide))
              replace hA := Lib.hid (hA.out.grown hg1 fun k hk => hk.1)
              replace hb := Lib.hid (below_grown hb.out hg1 hb.out.size l9.out)
              have K1 := Lib.hid k1
              clear k1 hg1 hs1
              refine stepT 14 rfl (by decide +kernel) (by rfl) ?_
              intro K hK
              refine wp_storeB flatOut (.tmp 10) (.tmp 53) rfl g10 rfl _ rfl b10z rfl rfl rfl ?_
              intro z2 k2 hg2 hs2
              refine hK _ _ (.inl (by decide)) ?_
              clear hK K
              try simp only [Act.put, List.setIfInBounds_toArray, List.set_cons_zero, List.set_cons_succ]
              refine doneT (by kernel_rfl) ?_
              refine ⟨g9, g10, Aa, ca, Af2, cf2, A2', c2', A3', c3', A', c', _, _, _, _, _, _, _, _, _, _, _, rfl, grown_block hg2 K1.out (fun e => ne2.out (by injection e)), k2, ?_⟩
              exact ⟨(hA.out.grown hg2 fun k hk => hk.2).mono fun _ _ => trivial, (hH.out.grown hg2 (fun k hk => hk.2) (by decide)).mono fun _ _ => trivial, (hS.out.grown hg2 (fun k hk => hk.2.2) (by decide)).mono fun _ hk => hk.1, below_grown hb.out hg2 hb.out.size l10.out, l9.out, l10.out⟩
          · clear hi
            refine ⟨_, rfl, by rfl, ?_⟩
            intro K hK
            go_simp
            have bb := (Below.refl u25.heap.size u25).alloc (Nat.le_refl _) (.cells #[.int .u8 0, .slice none 0 0] 56)
            have sm := smBlk (b1 := w.heap.size) (b2 := w.heap.size + 1) bb (by have := hb.out.size; have := HN7.out; have := hN2.out; omega) (by have := hb.out.size; have := HN7.out; have := hN2.out; omega)
            have l10 := Lib.hid hb.out.size
            have ne := Lib.hid (show g9 ≠ u25.heap.size from fun e => by have := block_lt b9.out; omega)
            replace b9 := Lib.hid ((bb.block _ (block_lt b9.out)).trans b9.out)
            have b10 := Lib.hid (alloc1 u25 (.cells #[.int .u8 0, .slice none 0 0] 56))
            replace hb := Lib.hid (hb.out.trans (bb.mono hb.out.size))
            refine hK _ _ (.inr sm) ?_
            clear hK K sm bb
            try simp only [Act.put, List.setIfInBounds_toArray, List.set_cons_zero, List.set_cons_succ]
            generalize u25.alloc (.cells #[.int .u8 0, .slice none 0 0] 56) = u31 at b10 l10 hb ne b9 ⊢
            generalize u25.heap.size = g10 at b10 l10 hb ne b9 ⊢
            refine stepTA [4] (by decide +kernel) (by decide) ?_
            intro i hi
            obtain rfl : i = 4 := by simpa using hi
            clear hi
            refine ⟨_, rfl, by rfl, ?_⟩
            intro K hK
            go_simp
            refine (KF.out u31 hb.out).mono ?_
            rintro e u32 ⟨v, rfl, ho, bb⟩
            obtain ⟨Af, cf, rfl, hf⟩ := RdS.of_own ho
            have sm := smBlk (b1 := w.heap.size) (b2 := w.heap.size + 1) bb (by have := hb.out.size; have := HN7.out; have := hN2.out; omega) (by have := hb.out.size; have := HN7.out; have := hN2.out; omega)
            replace b9 := Lib.hid ((bb.block _ (block_lt b9.out)).trans b9.out)
            replace b10 := Lib.hid ((bb.block _ (block_lt b10.out)).trans b10.out)
            replace hb := Lib.hid (hb.out.trans (bb.mono hb.out.size))
            refine hK _ _ (.inr sm) ?_
            clear hK K sm bb ho
            try simp only [Act.put, List.setIfInBounds_toArray, List.set_cons_zero, List.set_cons_succ]
            have hyM := Lib.hid hb.out.size
            replace hf := Lib.hid (hf.mono (G := fun k => k < u32.heap.size) fun k hk => hk.2)
            obtain ⟨M, hMe⟩ : ∃ M, u32.heap.size = M := ⟨_, rfl⟩
            rw [hMe] at hyM hf
            have hM := Lib.hid (Nat.le_of_eq hMe.symm)
            clear hMe
            ((first | (refine takeT 5 (v := ?_) rfl (by decide +kernel) (by decide +kernel) (by decide +kernel) (fun _ _ _ h => h) (by decide +kernel) (Or.inl ⟨by rfl, ?_⟩) ?_; rotate_left 1; (focus (intro W hW; have hcW := hW.at; (try dsimp only at hcW); go_simp; first | done | with_reducible rfl)); try simp only [Act.put, List.setIfInBounds_toArray, List.set_cons_zero, List.set_cons_succ]) | (refine takeW 5 (v := ?_) rfl (by decide +kernel) (by decide +kernel) (by decide +kernel) (fun _ _ _ h => h) (Or.inl ⟨by rfl, ?_⟩) ?_; rotate_left 1; (focus (intro W hW; go_simp; first | done | with_reducible rfl)); try simp only [Act.put, List.setIfInBounds_toArray, List.set_cons_zero, List.set_cons_succ]) | (refine takeW 5 rfl (by decide +kernel) (by decide +kernel) (by decide +kernel) (fun _ _ _ h => h) (Or.inr ⟨by rfl, rfl⟩) ?_; try simp only [Act.put, List.setIfInBounds_toArray, List.set_cons_zero, List.set_cons_succ]) | skip))
            refine stepTA [7] (by decide +kernel) (by decide) ?_
            intro i hi
            obtain rfl : i = 7 := by simpa using hi
            clear hi
            refine ⟨_, rfl, by rfl, ?_⟩
            intro K hK
            go_simp
            refine (KRS.out u32 M hM.out hyM.out hb.out Af cf hf.out).mono ?_
            rintro e u33 ⟨v', F', A', c', rfl, ra, hw, hm⟩
            have bb := hm.belowN (N := u32.heap.size) (fun k hk => hk.elim) (Nat.le_refl _)
            have sm := smBlk (b1 := w.heap.size) (b2 := w.heap.size + 1) bb (by have := hb.out.size; have := HN7.out; have := hN2.out; omega) (by have := hb.out.size; have := HN7.out; have := hN2.out; omega)
            have hFy := Lib.hid (show ∀ k, F' k → y.heap.size ≤ k from fun k hk => (hm.new _ hk).elim (fun h => h.elim) (fun h => Nat.le_trans hb.out.size h))
            have n9 := Lib.hid (show ¬ F' g9 from fun hf => (hm.new _ hf).elim (fun h => h) (fun h => by have := block_lt b9.out; omega))
            replace b9 := Lib.hid ((bb.block _ (block_lt b9.out)).trans b9.out)
            have n10 := Lib.hid (show ¬ F' g10 from fun hf => (hm.new _ hf).elim (fun h => h) (fun h => by have := block_lt b10.out; omega))
            replace b10 := Lib.hid ((bb.block _ (block_lt b10.out)).trans b10.out)
            replace hb := Lib.hid (hb.out.trans (bb.mono hb.out.size))
            replace hM := Lib.hid (Nat.le_trans hM.out bb.size)
            replace ra := Lib.hid ra
            replace hw := Lib.hid hw
            refine hK _ _ (.inr sm) ?_
            clear hK K sm bb hm hf
            try simp only [Act.put, List.setIfInBounds_toArray, List.set_cons_zero, List.set_cons_succ]
            ((first | (refine takeT 8 (v := ?_) rfl (by decide +kernel) (by decide +kernel) (by decide +kernel) (fun _ _ _ h => h) (by decide +kernel) (Or.inl ⟨by rfl, ?_⟩) ?_; rotate_left 1; (focus (intro W hW; have hcW := hW.at; (try dsimp only at hcW); go_simp; first | done | with_reducible rfl)); try simp only [Act.put, List.setIfInBounds_toArray, List.set_cons_zero, List.set_cons_succ]) | (refine takeW 8 (v := ?_) rfl (by decide +kernel) (by decide +kernel) (by decide +kernel) (fun _ _ _ h => h) (Or.inl ⟨by rfl, ?_⟩) ?_; rotate_left 1; (focus (intro W hW; go_simp; first | done | with_reducible rfl)); try simp only [Act.put, List.setIfInBounds_toArray, List.set_cons_zero, List.set_cons_succ]) | (refine takeW 8 rfl (by decide +kernel) (by decide +kernel) (by decide +kernel) (fun _ _ _ h => h) (Or.inr ⟨by rfl, rfl⟩) ?_; try simp only [Act.put, List.setIfInBounds_toArray, List.set_cons_zero, List.set_cons_succ]) | skip); (first | (refine takeT 9 (v := ?_) rfl (by decide +kernel) (by decide +kernel) (by decide +kernel) (fun _ _ _ h => h) (by decide +kernel) (Or.inl ⟨by rfl, ?_⟩) ?_; rotate_left 1; (focus (intro W hW; have hcW := hW.at; (try dsimp only at hcW); go_simp; first | done | with_reducible rfl)); try simp only [Act.put, List.setIfInBounds_toArray, List.set_cons_zero, List.set_cons_succ]) | (refine takeW 9 (v := ?_) rfl (by decide +kernel) (by decide +kernel) (by decide +kernel) (fun _ _ _ h => h) (Or.inl ⟨by rfl, ?_⟩) ?_; rotate_left 1; (focus (intro W hW; go_simp; first | done | with_reducible rfl)); try simp only [Act.put, List.setIfInBounds_toArray, List.set_cons_zero, List.set_cons_succ]) | (refine takeW 9 rfl (by decide +kernel) (by decide +kernel) (by decide +kernel) (fun _ _ _ h => h) (Or.inr ⟨by rfl, rfl⟩) ?_; try simp only [Act.put, List.setIfInBounds_toArray, List.set_cons_zero, List.set_cons_succ]) | skip); (first | (refine takeT 10 (v := ?_) rfl (by decide +kernel) (by decide +kernel) (by decide +kernel) (fun _ _ _ h => h) (by decide +kernel) (Or.inl ⟨by rfl, ?_⟩) ?_; rotate_left 1; (focus (intro W hW; have hcW := hW.at; (try dsimp only at hcW); go_simp; first | done | with_reducible rfl)); try simp only [Act.put, List.setIfInBounds_toArray, List.set_cons_zero, List.set_cons_succ]) | (refine takeW 10 (v := ?_) rfl (by decide +kernel) (by decide +kernel) (by decide +kernel) (fun _ _ _ h => h) (Or.inl ⟨by rfl, ?_⟩) ?_; rotate_left 1; (focus (intro W hW; go_simp; first | done | with_reducible rfl)); try simp only [Act.put, List.setIfInBounds_toArray, List.set_cons_zero, List.set_cons_succ]) | (refine takeW 10 rfl (by decide +kernel) (by decide +kernel) (by decide +kernel) (fun _ _ _ h => h) (Or.inr ⟨by rfl, rfl⟩) ?_; try simp only [Act.put, List.setIfInBounds_toArray, List.set_cons_zero, List.set_cons_succ]) | skip))
            obtain ⟨Aa, ca, Af2, cf2, A2', c2', A3', c3', rfl, hw1, hw2, hw3, hw4, hw5, hw6⟩ := hw.out
            have hwy := Hw7.out.size
            have hH := Lib.hid (hw3.rdl.mono (G := fun k => k ≠ g9 ∧ k ≠ g10) fun k hk => hk.elim (fun h => by have := l9.out; have := l10.out; have h1 : k < w.heap.size := h.1; omega) (fun h => ⟨fun e => n9.out (by rw [← e]; exact (hw6 k).2 (.inl h)), fun e => n10.out (by rw [← e]; exact (hw6 k).2 (.inl h))⟩))
            have hS := Lib.hid (hw4.rdl.mono (G := fun k => (k < w.heap.size ∨ y.heap.size ≤ k) ∧ k ≠ g9 ∧ k ≠ g10) fun k hk => hk.elim (fun h => by have := l9.out; have := l10.out; have h1 : k < w.heap.size := h.1; omega) (fun h => ⟨.inr (hFy.out k ((hw6 k).2 (.inr h))), fun e => n9.out (by rw [← e]; exact (hw6 k).2 (.inr h)), fun e => n10.out (by rw [← e]; exact (hw6 k).2 (.inr h))⟩))
            have hA := Lib.hid (ra.out.mono (G := fun k => k ≠ g9 ∧ k ≠ g10) fun k hk => by have := l9.out; have := l10.out; have h1 : k < w.heap.size := hk.1; omega)
            have ne2 := Lib.hid (show g9 ≠ g10 from ne.out)
            clear hw1 hw2 hw3 hw4 hw5 hw6 hw ra hwy hFy
            refine stepT 13 rfl (by decide +kernel) (by rfl) ?_
            intro K hK
            refine wp_storeB flatRw (.tmp 9) (.tmp 52) rfl g9 rfl _ rfl b9.out rfl rfl rfl ?_
            intro z1 k1 hg1 hs1
            refine hK _ _ (.inl (by decide)) ?_
            clear hK K
            try simp only [Act.put, List.setIfInBounds_toArray, List.set_cons_zero, List.set_cons_succ]
            have b10z := grown_block hg1 b10.out (fun e => ne2.out (by injection e with e; exact e.symm))
            replace hH := Lib.hid (hH.out.grown hg1 (fun k hk => hk.1) (by decide))
            replace hS := Lib.hid (hS.out.grown hg1 (fun k hk => hk.2.1) (by decide))
            replace hA := Lib.hid (hA.out.grown hg1 fun k hk => hk.1)
            replace hb := Lib.hid (below_grown hb.out hg1 hb.out.size l9.out)
            have K1 := Lib.hid k1
            clear k1 hg1 hs1
            refine stepT 14 rfl (by decide +kernel) (by rfl) ?_
            intro K hK
            refine wp_storeB flatOut (.tmp 10) (.tmp 53) rfl g10 rfl _ rfl b10z rfl rfl rfl ?_
            intro z2 k2 hg2 hs2
            refine hK _ _ (.inl (by decide)) ?_
            clear hK K
            try simp only [Act.put, List.setIfInBounds_toArray, List.set_cons_zero, List.set_cons_succ]
            refine doneT (by kernel_rfl) ?_
            refine ⟨g9, g10, Aa, ca, Af2, cf2, A2', c2', A3', c3', A', c', _, _, _, _, _, _, _, _, _, _, _, rfl, grown_block hg2 K1.out (fun e => ne2.out (by injection e)), k2, ?_⟩
            exact ⟨(hA.out.grown hg2 fun k hk => hk.2).mono fun _ _ => trivial, (hH.out.grown hg2 (fun k hk => hk.2) (by decide)).mono fun _ _ => trivial, (hS.out.grown hg2 (fun k hk => hk.2.2) (by decide)).mono fun _ hk => hk.1, below_grown hb.out hg2 hb.out.size l10.out, l9.out, l10.out⟩
        · clear hi
          refine ⟨_, rfl, by rfl, ?_⟩
          intro K hK
          go_simp
          have bb := (Below.refl x0.heap.size x0).alloc (Nat.le_refl _) (.cells #[.int .u8 0, .slice none 0 0] 56)
          have sm := smBlk (b1 := w.heap.size) (b2 := w.heap.size + 1) bb (by have := hb.out.size; have := HN7.out; have := hN2.out; omega) (by have := hb.out.size; have := HN7.out; have := hN2.out; omega)
          have l10 := Lib.hid hb.out.size
          have b10 := Lib.hid (alloc1 x0 (.cells #[.int .u8 0, .slice none 0 0] 56))
          replace hb := Lib.hid (hb.out.trans (bb.mono hb.out.size))
          refine hK _ _ (.inr sm) ?_
          clear hK K sm bb
          try simp only [Act.put, List.setIfInBounds_toArray, List.set_cons_zero, List.set_cons_succ]
          generalize x0.alloc (.cells #[.int .u8 0, .slice none 0 0] 56) = u34 at b10 l10 hb ⊢
          generalize x0.heap.size = g10 at b10 l10 hb ⊢
          refine stepTA [4, 11] (by decide +kernel) (by decide) ?_
          intro i hi
          rcases (by simpa using hi : i = 4 ∨ i = 11) with rfl | rfl
          · clear hi
            refine ⟨_, rfl, by rfl, ?_⟩
            intro K hK
            go_simp
            refine (KF.out u34 hb.out).mono ?_
            rintro e u35 ⟨v, rfl, ho, bb⟩
            obtain ⟨Af, cf, rfl, hf⟩ := RdS.of_own ho
            have sm := smBlk (b1 := w.heap.size) (b2 := w.heap.size + 1) bb (by have := hb.out.size; have := HN7.out; have := hN2.out; omega) (by have := hb.out.size; have := HN7.out; have := hN2.out; omega)
            replace b10 := Lib.hid ((bb.block _ (block_lt b10.out)).trans b10.out)
            replace hb := Lib.hid (hb.out.trans (bb.mono hb.out.size))
            refine hK _ _ (.inr sm) ?_
            clear hK K sm bb ho
            try simp only [Act.put, List.setIfInBounds_toArray, List.set_cons_zero, List.set_cons_succ]
            have hyM := Lib.hid hb.out.size
            replace hf := Lib.hid (hf.mono (G := fun k => k < u35.heap.size) fun k hk => hk.2)
            obtain ⟨M, hMe⟩ : ∃ M, u35.heap.size = M := ⟨_, rfl⟩
            rw [hMe] at hyM hf
            have hM := Lib.hid (Nat.le_of_eq hMe.symm)
            clear hMe
            ((first | (refine takeT 5 (v := ?_) rfl (by decide +kernel) (by decide +kernel) (by decide +kernel) (fun _ _ _ h => h) (by decide +kernel) (Or.inl ⟨by rfl, ?_⟩) ?_; rotate_left 1; (focus (intro W hW; have hcW := hW.at; (try dsimp only at hcW); go_simp; first | done | with_reducible rfl)); try simp only [Act.put, List.setIfInBounds_toArray, List.set_cons_zero, List.set_cons_succ]) | (refine takeW 5 (v := ?_) rfl (by decide +kernel) (by decide +kernel) (by decide +kernel) (fun _ _ _ h => h) (Or.inl ⟨by rfl, ?_⟩) ?_; rotate_left 1; (focus (intro W hW; go_simp; first | done | with_reducible rfl)); try simp only [Act.put, List.setIfInBounds_toArray, List.set_cons_zero, List.set_cons_succ]) | (refine takeW 5 rfl (by decide +kernel) (by decide +kernel) (by decide +kernel) (fun _ _ _ h => h) (Or.inr ⟨by rfl, rfl⟩) ?_; try simp only [Act.put, List.setIfInBounds_toArray, List.set_cons_zero, List.set_cons_succ]) | skip))
            refine stepTA [7, 11] (by decide +kernel) (by decide) ?_
            intro i hi
            rcases (by simpa using hi : i = 7 ∨ i = 11) with rfl | rfl
            · clear hi
              refine ⟨_, rfl, by rfl, ?_⟩
              intro K hK
              go_simp
              refine (KRS.out u35 M hM.out hyM.out hb.out Af cf hf.out).mono ?_
              rintro e u36 ⟨v', F', A', c', rfl, ra, hw, hm⟩
              have bb := hm.belowN (N := u35.heap.size) (fun k hk => hk.elim) (Nat.le_refl _)
              have sm := smBlk (b1 := w.heap.size) (b2 := w.heap.size + 1) bb (by have := hb.out.size; have := HN7.out; have := hN2.out; omega) (by have := hb.out.size; have := HN7.out; have := hN2.out; omega)
              have hFy := Lib.hid (show ∀ k, F' k → y.heap.size ≤ k from fun k hk => (hm.new _ hk).elim (fun h => h.elim) (fun h => Nat.le_trans hb.out.size h))
              have n10 := Lib.hid (show ¬ F' g10 from fun hf => (hm.new _ hf).elim (fun h => h) (fun h => by have := block_lt b10.out; omega))
              replace b10 := Lib.hid ((bb.block _ (block_lt b10.out)).trans b10.out)
              replace hb := Lib.hid (hb.out.trans (bb.mono hb.out.size))
              replace hM := Lib.hid (Nat.le_trans hM.out bb.size)
              replace ra := Lib.hid ra
              replace hw := Lib.hid hw
              refine hK _ _ (.inr sm) ?_
              clear hK K sm bb hm hf
              try simp only [Act.put, List.setIfInBounds_toArray, List.set_cons_zero, List.set_cons_succ]
              ((first | (refine takeT 8 (v := ?_) rfl (by decide +kernel) (by decide +kernel) (by decide +kernel) (fun _ _ _ h => h) (by decide +kernel) (Or.inl ⟨by rfl, ?_⟩) ?_; rotate_left 1; (focus (intro W hW; have hcW := hW.at; (try dsimp only at hcW); go_simp; first | done | with_reducible rfl)); try simp only [Act.put, List.setIfInBounds_toArray, List.set_cons_zero, List.set_cons_succ]) | (refine takeW 8 (v := ?_) rfl (by decide +kernel) (by decide +kernel) (by decide +kernel) (fun _ _ _ h => h) (Or.inl ⟨by rfl, ?_⟩) ?_; rotate_left 1; (focus (intro W hW; go_simp; first | done | with_reducible rfl)); try simp only [Act.put, List.setIfInBounds_toArray, List.set_cons_zero, List.set_cons_succ]) | (refine takeW 8 rfl (by decide +kernel) (by decide +kernel) (by decide +kernel) (fun _ _ _ h => h) (Or.inr ⟨by rfl, rfl⟩) ?_; try simp only [Act.put, List.setIfInBounds_toArray, List.set_cons_zero, List.set_cons_succ]) | skip); (first | (refine takeT 9 (v := ?_) rfl (by decide +kernel) (by decide +kernel) (by decide +kernel) (fun _ _ _ h => h) (by decide +kernel) (Or.inl ⟨by rfl, ?_⟩) ?_; rotate_left 1; (focus (intro W hW; have hcW := hW.at; (try dsimp only at hcW); go_simp; first | done | with_reducible rfl)); try simp only [Act.put, List.setIfInBounds_toArray, List.set_cons_zero, List.set_cons_succ]) | (refine takeW 9 (v := ?_) rfl (by decide +kernel) (by decide +kernel) (by decide +kernel) (fun _ _ _ h => h) (Or.inl ⟨by rfl, ?_⟩) ?_; rotate_left 1; (focus (intro W hW; go_simp; first | done | with_reducible rfl)); try simp only [Act.put, List.setIfInBounds_toArray, List.set_cons_zero, List.set_cons_succ]) | (refine takeW 9 rfl (by decide +kernel) (by decide +kernel) (by decide +kernel) (fun _ _ _ h => h) (Or.inr ⟨by rfl, rfl⟩) ?_; try simp only [Act.put, List.setIfInBounds_toArray, List.set_cons_zero, List.set_cons_succ]) | skip); (first | (refine takeT 10 (v := ?_) rfl (by decide +kernel) (by decide +kernel) (by decide +kernel) (fun _ _ _ h => h) (by decide +kernel) (Or.inl ⟨by rfl, ?_⟩) ?_; rotate_left 1; (focus (intro W hW; have hcW := hW.at; (try dsimp only at hcW); go_simp; first | done | with_reducible rfl)); try simp only [Act.put, List.setIfInBounds_toArray, List.set_cons_zero, List.set_cons_succ]) | (refine takeW 10 (v := ?_) rfl (by decide +kernel) (by decide +kernel) (by decide +kernel) (fun _ _ _ h => h) (Or.inl ⟨by rfl, ?_⟩) ?_; rotate_left 1; (focus (intro W hW; go_simp; first | done | with_reducible rfl)); try simp only [Act.put, List.setIfInBounds_toArray, List.set_cons_zero, List.set_cons_succ]) | (refine takeW 10 rfl (by decide +kernel) (by decide +kernel) (by decide +kernel) (fun _ _ _ h => h) (Or.inr ⟨by rfl, rfl⟩) ?_; try simp only [Act.put, List.setIfInBounds_toArray, List.set_cons_zero, List.set_cons_succ]) | skip))
              refine stepTA [11] (by decide +kernel) (by decide) ?_
              intro i hi
              obtain rfl : i = 11 := by simpa using hi
              clear hi
              refine ⟨_, rfl, by rfl, ?_⟩
              intro K hK
              go_simp
              have bb := (Below.refl u36.heap.size u36).alloc (Nat.le_refl _) (.cells #[.slice none 0 0, .slice none 0 0, .slice none 0 0, .slice none 0 0] 67)
              have sm := smBlk (b1 := w.heap.size) (b2 := w.heap.size + 1) bb (by have := hb.out.size; have := HN7.out; have := hN2.out; omega) (by have := hb.out.size; have := HN7.out; have := hN2.out; omega)
              have l9 := Lib.hid hb.out.size
              have ne := Lib.hid (show g10 ≠ u36.heap.size from fun e => by have := block_lt b10.out; omega)
              replace b10 := Lib.hid ((bb.block _ (block_lt b10.out)).trans b10.out)
              have b9 := Lib.hid (alloc1 u36 (.cells #[.slice none 0 0, .slice none 0 0, .slice none 0 0, .slice none 0 0] 67))
              have n9 := Lib.hid (show ¬ F' u36.heap.size from fun hf => by have := ((rwA _ _ _).ge hw.out _ hf).2; omega)
              replace hw := Lib.hid (Asr.below hw.out bb hM.out)
              replace ra := Lib.hid (ra.out.keep (w' := u36.alloc (.cells #[.slice none 0 0, .slice none 0 0, .slice none 0 0, .slice none 0 0] 67)) fun k hk => bb.block k (Nat.lt_of_lt_of_le hk.2 hM.out))
              replace hb := Lib.hid (hb.out.trans (bb.mono hb.out.size))
              replace hM := Lib.hid (Nat.le_trans hM.out bb.size)
              refine hK _ _ (.inr sm) ?_
              clear hK K sm bb
              try simp only [Act.put, List.setIfInBounds_toArray, List.set_cons_zero, List.set_cons_succ]
              generalize u36.alloc (.cells #[.slice none 0 0, .slice none 0 0, .slice none 0 0, .slice none 0 0] 67) = u37 at b9 l9 hb ne b10 n9 hw ra hM ⊢
              generalize u36.heap.size = g9 at b9 l9 hb ne b10 n9 hw ra hM ⊢
              obtain ⟨Aa, ca, Af2, cf2, A2', c2', A3', c3', rfl, hw1, hw2, hw3, hw4, hw5, hw6⟩ := hw.out
              have hwy := Hw7.out.size
              have hH := Lib.hid (hw3.rdl.mono (G := fun k => k ≠ g9 ∧ k ≠ g10) fun k hk => hk.elim (fun h => by have := l9.out; have := l10.out; have h1 : k < w.heap.size := h.1; omega) (fun h => ⟨fun e => n9.out (by rw [← e]; exact (hw6 k).2 (.inl h)), fun e => n10.out (by rw [← e]; exact (hw6 k).2 (.inl h))⟩))
              have hS := Lib.hid (hw4.rdl.mono (G := fun k => (k < w.heap.size ∨ y.heap.size ≤ k) ∧ k ≠ g9 ∧ k ≠ g10) fun k hk => hk.elim (fun h => by have := l9.out; have := l10.out; have h1 : k < w.heap.size := h.1; omega) (fun h => ⟨.inr (hFy.out k ((hw6 k).2 (.inr h))), fun e => n9.out (by rw [← e]; exact (hw6 k).2 (.inr h)), fun e => n10.out (by rw [← e]; exact (hw6 k).2 (.inr h))⟩))
              have hA := Lib.hid (ra.out.mono (G := fun k => k ≠ g9 ∧ k ≠ g10) fun k hk => by have := l9.out; have := l10.out; have h1 : k < w.heap.size := hk.1; omega)
              have ne2 := Lib.hid (show g9 ≠ g10 from (fun e => ne.out e.symm))
              clear hw1 hw2 hw3 hw4 hw5 hw6 hw ra hwy hFy
              refine stepT 13 rfl (by decide +kernel) (by rfl) ?_
              intro K hK
              refine wp_storeB flatRw (.tmp 9) (.tmp 52) rfl g9 rfl _ rfl b9.out rfl rfl rfl ?_
              intro z1 k1 hg1 hs1
              refine hK _ _ (.inl (by decide)) ?_
              clear hK K
              try simp only [Act.put, List.setIfInBounds_toArray, List.set_cons_zero, List.set_cons_succ]
              have b10z := grown_block hg1 b10.out (fun e => ne2.out (by injection e with e; exact e.symm))
              replace hH := Lib.hid (hH.out.grown hg1 (fun k hk => hk.1) (by decide))
              replace hS := Lib.hid (hS.out.grown hg1 (fun k hk => hk.2.1) (by decide))
              replace hA := Lib.hid (hA.out.grown hg1 fun k hk => hk.1)
              replace hb := Lib.hid (below_grown hb.out hg1 hb.out.size l9.out)
              have K1 := Lib.hid k1
              clear k1 hg1 hs1
              refine stepT 14 rfl (by decide +kernel) (by rfl) ?_
              intro K hK
              refine wp_storeB flatOut (.tmp 10) (.tmp 53) rfl g10 rfl _ rfl b10z rfl rfl rfl ?_
              intro z2 k2 hg2 hs2
              refine hK _ _ (.inl (by decide)) ?_
              clear hK K
              try simp only [Act.put, List.setIfInBounds_toArray, List.set_cons_zero, List.set_cons_succ]
              refine doneT (by kernel_rfl) ?_
              refine ⟨g9, g10, Aa, ca, Af2, cf2, A2', c2', A3', c3', A', c', _, _, _, _, _, _, _, _, _, _, _, rfl, grown_block hg2 K1.out (fun e => ne2.out (by injection e)), k2, ?_⟩
              exact ⟨(hA.out.grown hg2 fun k hk => hk.2).mono fun _ _ => trivial, (hH.out.grown hg2 (fun k hk => hk.2) (by decide)).mono fun _ _ => trivial, (hS.out.grown hg2 (fun k hk => hk.2.2) (by decide)).mono fun _ hk => hk.1, below_grown hb.out hg2 hb.out.size l10.out, l9.out, l10.out⟩
            · clear hi
              refine ⟨_, rfl, by rfl, ?_⟩
              intro K hK
              go_simp
              have bb := (Below.refl u35.heap.size u35).alloc (Nat.le_refl _) (.cells #[.slice none 0 0, .slice none 0 0, .slice none 0 0, .slice none 0 0] 67)
              have sm := smBlk (b1 := w.heap.size) (b2 := w.heap.size + 1) bb (by have := hb.out.size; have := HN7.out; have := hN2.out; omega) (by have := hb.out.size; have := HN7.out; have := hN2.out; omega)
              have l9 := Lib.hid hb.out.size
              have ne := Lib.hid (show g10 ≠ u35.heap.size from fun e => by have := block_lt b10.out; omega)
              replace b10 := Lib.hid ((bb.block _ (block_lt b10.out)).trans b10.out)
              have b9 := Lib.hid (alloc1 u35 (.cells #[.slice none 0 0, .slice none 0 0, .slice none 0 0, .slice none 0 0] 67))
              replace hf := Lib.hid (hf.out.keep (w' := u35.alloc (.cells #[.slice none 0 0, .slice none 0 0, .slice none 0 0, .slice none 0 0] 67)) fun k hk => bb.block k (Nat.lt_of_lt_of_le hk hM.out))
              replace hb := Lib.hid (hb.out.trans (bb.mono hb.out.size))
              replace hM := Lib.hid (Nat.le_trans hM.out bb.size)
              refine hK _ _ (.inr sm) ?_
              clear hK K sm bb
              try simp only [Act.put, List.setIfInBounds_toArray, List.set_cons_zero, List.set_cons_succ]
              generalize u35.alloc (.cells #[.slice none 0 0, .slice none 0 0, .slice none 0 0, .slice none 0 0] 67) = u38 at b9 l9 hb ne b10 hf hM ⊢
              generalize u35.heap.size = g9 at b9 l9 hb ne b10 hf hM ⊢
              refine stepTA [7] (by decide +kernel) (by decide) ?_
              intro i hi
              obtain rfl : i = 7 := by simpa using hi
              clear hi
              refine ⟨_, rfl, by rfl, ?_⟩
              intro K hK
              go_simp
              refine (KRS.out u38 M hM.out hyM.out hb.out Af cf hf.out).mono ?_
              rintro e u39 ⟨v', F', A', c', rfl, ra, hw, hm⟩
              have bb := hm.belowN (N := u38.heap.size) (fun k hk => hk.elim) (Nat.le_refl _)
              have sm := smBlk (b1 := w.heap.size) (b2 := w.heap.size + 1) bb (by have := hb.out.size; have := HN7.out; have := hN2.out; omega) (by have := hb.out.size; have := HN7.out; have := hN2.out; omega)
              have hFy := Lib.hid (show ∀ k, F' k → y.heap.size ≤ k from fun k hk => (hm.new _ hk).elim (fun h => h.elim) (fun h => Nat.le_trans hb.out.size h))
              have n9 := Lib.hid (show ¬ F' g9 from fun hf => (hm.new _ hf).elim (fun h => h) (fun h => by have := block_lt b9.out; omega))
              replace b9 := Lib.hid ((bb.block _ (block_lt b9.out)).trans b9.out)
              have n10 := Lib.hid (show ¬ F' g10 from fun hf => (hm.new _ hf).elim (fun h => h) (fun h => by have := block_lt b10.out; omega))
              replace b10 := Lib.hid ((bb.block _ (block_lt b10.out)).trans b10.out)
              replace hb := Lib.hid (hb.out.trans (bb.mono hb.out.size))
              replace hM := Lib.hid (Nat.le_trans hM.out bb.size)
              replace ra := Lib.hid ra
              replace hw := Lib.hid hw
              refine hK _ _ (.inr sm) ?_
              clear hK K sm bb hm hf
              try simp only [Act.put, List.setIfInBounds_toArray, List.set_cons_zero, List.set_cons_succ]
              ((first | (refine takeT 8 (v := ?_) rfl (by decide +kernel) (by decide +kernel) (by decide +kernel) (fun _ _ _ h => h) (by decide +kernel) (Or.inl ⟨by rfl, ?_⟩) ?_; rotate_left 1; (focus (intro W hW; have hcW := hW.at; (try dsimp only at hcW); go_simp; first | done | with_reducible rfl)); try simp only [Act.put, List.setIfInBounds_toArray, List.set_cons_zero, List.set_cons_succ]) | (refine takeW 8 (v := ?_) rfl (by decide +kernel) (by decide +kernel) (by decide +kernel) (fun _ _ _ h => h) (Or.inl ⟨by rfl, ?_⟩) ?_; rotate_left 1; (focus (intro W hW; go_simp; first | done | with_reducible rfl)); try simp only [Act.put, List.setIfInBounds_toArray, List.set_cons_zero, List.set_cons_succ]) | (refine takeW 8 rfl (by decide +kernel) (by decide +kernel) (by decide +kernel) (fun _ _ _ h => h) (Or.inr ⟨by rfl, rfl⟩) ?_; try simp only [Act.put, List.setIfInBounds_toArray, List.set_cons_zero, List.set_cons_succ]) | skip); (first | (refine takeT 9 (v := ?_) rfl (by decide +kernel) (by decide +kernel) (by decide +kernel) (fun _ _ _ h => h) (by decide +kernel) (Or.inl ⟨by rfl, ?_⟩) ?_; rotate_left 1; (focus (intro W hW; have hcW := hW.at; (try dsimp only at hcW); go_simp; first | done | with_reducible rfl)); try simp only [Act.put, List.setIfInBounds_toArray, List.set_cons_zero, List.set_cons_succ]) | (refine takeW 9 (v := ?_) rfl (by decide +kernel) (by decide +kernel) (by decide +kernel) (fun _ _ _ h => h) (Or.inl ⟨by rfl, ?_⟩) ?_; rotate_left 1; (focus (intro W hW; go_simp; first | done | with_reducible rfl)); try simp only [Act.put, List.setIfInBounds_toArray, List.set_cons_zero, List.set_cons_succ]) | (refine takeW 9 rfl (by decide +kernel) (by decide +kernel) (by decide +kernel) (fun _ _ _ h => h) (Or.inr ⟨by rfl, rfl⟩) ?_; try simp only [Act.put, List.setIfInBounds_toArray, List.set_cons_zero, List.set_cons_succ]) | skip); (first | (refine takeT 10 (v := ?_) rfl (by decide +kernel) (by decide +kernel) (by decide +kernel) (fun _ _ _ h => h) (by decide +kernel) (Or.inl ⟨by rfl, ?_⟩) ?_; rotate_left 1; (focus (intro W hW; have hcW := hW.at; (try dsimp only at hcW); go_simp; first | done | with_reducible rfl)); try simp only [Act.put, List.setIfInBounds_toArray, List.set_cons_zero, List.set_cons_succ]) | (refine takeW 10 (v := ?_) rfl (by decide +kernel) (by decide +kernel) (by decide +kernel) (fun _ _ _ h => h) (Or.inl ⟨by rfl, ?_⟩) ?_; rotate_left 1; (focus (intro W hW; go_simp; first | done | with_reducible rfl)); try simp only [Act.put, List.setIfInBounds_toArray, List.set_cons_zero, List.set_cons_succ]) | (refine takeW 10 rfl (by decide +kernel) (by decide +kernel) (by decide +kernel) (fun _ _ _ h => h) (Or.inr ⟨by rfl, rfl⟩) ?_; try simp only [Act.put, List.setIfInBounds_toArray, List.set_cons_zero, List.set_cons_succ]) | skip))
              obtain ⟨Aa, ca, Af2, cf2, A2', c2', A3', c3', rfl, hw1, hw2, hw3, hw4, hw5, hw6⟩ := hw.out
              have hwy := Hw7.out.size
              have hH := Lib.hid (hw3.rdl.mono (G := fun k => k ≠ g9 ∧ k ≠ g10) fun k hk => hk.elim (fun h => by have := l9.out; have := l10.out; have h1 : k < w.heap.size := h.1; omega) (fun h => ⟨fun e => n9.out (by rw [← e]; exact (hw6 k).2 (.inl h)), fun e => n10.out (by rw [← e]; exact (hw6 k).2 (.inl h))⟩))
              have hS := Lib.hid (hw4.rdl.mono (G := fun k => (k < w.heap.size ∨ y.heap.size ≤ k) ∧ k ≠ g9 ∧ k ≠ g10) fun k hk => hk.elim (fun h => by have := l9.out; have := l10.out; have h1 : k < w.heap.size := h.1; omega) (fun h => ⟨.inr (hFy.out k ((hw6 k).2 (.inr h))), fun e => n9.out (by rw [← e]; exact (hw6 k).2 (.inr h)), fun e => n10.out (by rw [← e]; exact (hw6 k).2 (.inr h))⟩))
              have hA := Lib.hid (ra.out.mono (G := fun k => k ≠ g9 ∧ k ≠ g10) fun k hk => by have := l9.out; have := l10.out; have h1 : k < w.heap.size := hk.1; omega)
              have ne2 := Lib.hid (show g9 ≠ g10 from (fun e => ne.out e.symm))
              clear hw1 hw2 hw3 hw4 hw5 hw6 hw ra hwy hFy
              refine stepT 13 rfl (by decide +kernel) (by rfl) ?_
              intro K hK
              refine wp_storeB flatRw (.tmp 9) (.tmp 52) rfl g9 rfl _ rfl b9.out rfl rfl rfl ?_
              intro z1 k1 hg1 hs1
              refine hK _ _ (.inl (by decide)) ?_
              clear hK K
              try simp only [Act.put, List.setIfInBounds_toArray, List.set_cons_zero, List.set_cons_succ]
              have b10z := grown_block hg1 b10.out (fun e => ne2.out (by injection e with e; exact e.symm))
              replace hH := Lib.hid (hH.out.grown hg1 (fun k hk => hk.1) (by decide))
              replace hS := Lib.hid (hS.out.grown hg1 (fun k hk => hk.2.1) (by decide))
              replace hA := Lib.hid (hA.out.grown hg1 fun k hk => hk.1)
              replace hb := Lib.hid (below_grown hb.out hg1 hb.out.size l9.out)
              have K1 := Lib.hid k1
              clear k1 hg1 hs1
              refine stepT 14 rfl (by decide +kernel) (by rfl) ?_
              intro K hK
              refine wp_storeB flatOut (.tmp 10) (.tmp 53) rfl g10 rfl _ rfl b10z rfl rfl rfl ?_
              intro z2 k2 hg2 hs2
              refine hK _ _ (.inl (by decide)) ?_
              clear hK K
              try simp only [Act.put, List.setIfInBounds_toArray, List.set_cons_zero, List.set_cons_succ]
              refine doneT (by kernel_rfl) ?_
              refine ⟨g9, g10, Aa, ca, Af2, cf2, A2', c2', A3', c3', A', c', _, _, _, _, _, _, _, _, _, _, _, rfl, grown_block hg2 K1.out (fun e => ne2.out (by injection e)), k2, ?_⟩
              exact ⟨(hA.out.grown hg2 fun k hk => hk.2).mono fun _ _ => trivial, (hH.out.grown hg2 (fun k hk => hk.2) (by decide)).mono fun _ _ => trivial, (hS.out.grown hg2 (fun k hk => hk.2.2) (by decide)).mono fun _ hk => hk.1, below_grown hb.out hg2 hb.out.size l10.out, l9.out, l10.out⟩
          · clear hi
            refine ⟨_, rfl, by rfl, ?_⟩
            intro K hK
            go_simp
            have bb := (Below.refl u34.heap.size u34).alloc (Nat.le_refl _) (.cells #[.slice none 0 0, .slice none 0 0, .slice none 0 0, .slice none 0 0] 67)
            have sm := smBlk (b1 := w.heap.size) (b2 := w.heap.size + 1) bb (by have := hb.out.size; have := HN7.out; have := hN2.out; omega) (by have := hb.out.size; have := HN7.out; have := hN2.out; omega)
            have l9 := Lib.hid hb.out.size
            have ne := Lib.hid (show g10 ≠ u34.heap.size from fun e => by have := block_lt b10.out; omega)
            replace b10 := Lib.hid ((bb.block _ (block_lt b10.out)).trans b10.out)
            have b9 := Lib.hid (alloc1 u34 (.cells #[.slice none 0 0, .slice none 0 0, .slice none 0 0, .slice none 0 0] 67))
            replace hb := Lib.hid (hb.out.trans (bb.mono hb.out.size))
            refine hK _ _ (.inr sm) ?_
            clear hK K sm bb
            try simp only [Act.put, List.setIfInBounds_toArray, List.set_cons_zero, List.set_cons_succ]
            generalize u34.alloc (.cells #[.slice none 0 0, .slice none 0 0, .slice none 0 0, .slice none 0 0] 67) = u40 at b9 l9 hb ne b10 ⊢
            generalize u34.heap.size = g9 at b9 l9 hb ne b10 ⊢
            refine stepTA [4] (by decide +kernel) (by decide) ?_
            intro i hi
            obtain rfl : i = 4 := by simpa using hi
            clear hi
            refine ⟨_, rfl, by rfl, ?_⟩
            intro K hK
            go_simp
            refine (KF.out u40 hb.out).mono ?_
            rintro e u41 ⟨v, rfl, ho, bb⟩
            obtain ⟨Af, cf, rfl, hf⟩ := RdS.of_own ho
            have sm := smBlk (b1 := w.heap.size) (b2 := w.heap.size + 1) bb (by have := hb.out.size; have := HN7.out; have := hN2.out; omega) (by have := hb.out.size; have := HN7.out; have := hN2.out; omega)
            replace b9 := Lib.hid ((bb.block _ (block_lt b9.out)).trans b9.out)
            replace b10 := Lib.hid ((bb.block _ (block_lt b10.out)).trans b10.out)
            replace hb := Lib.hid (hb.out.trans (bb.mono hb.out.size))
            refine hK _ _ (.inr sm) ?_
            clear hK K sm bb ho
            try simp only [Act.put, List.setIfInBounds_toArray, List.set_cons_zero, List.set_cons_succ]
            have hyM := Lib.hid hb.out.size
            replace hf := Lib.hid (hf.mono (G := fun k => k < u41.heap.size) fun k hk => hk.2)
            obtain ⟨M, hMe⟩ : ∃ M, u41.heap.size = M := ⟨_, rfl⟩
            rw [hMe] at hyM hf
            have hM := Lib.hid (Nat.le_of_eq hMe.symm)
            clear hMe
            ((first | (refine takeT 5 (v := ?_) rfl (by decide +kernel) (by decide +kernel) (by decide +kernel) (fun _ _ _ h => h) (by decide +kernel) (Or.inl ⟨by rfl, ?_⟩) ?_; rotate_left 1; (focus (intro W hW; have hcW := hW.at; (try dsimp only at hcW); go_simp; first | done | with_reducible rfl)); try simp only [Act.put, List.setIfInBounds_toArray, List.set_cons_zero, List.set_cons_succ]) | (refine takeW 5 (v := ?_) rfl (by decide +kernel) (by decide +kernel) (by decide +kernel) (fun _ _ _ h => h) (Or.inl ⟨by rfl, ?_⟩) ?_; rotate_left 1; (focus (intro W hW; go_simp; first | done | with_reducible rfl)); try simp only [Act.put, List.setIfInBounds_toArray, List.set_cons_zero, List.set_cons_succ]) | (refine takeW 5 rfl (by decide +kernel) (by decide +kernel) (by decide +kernel) (fun _ _ _ h => h) (Or.inr ⟨by rfl, rfl⟩) ?_; try simp only [Act.put, List.setIfInBounds_toArray, List.set_cons_zero, List.set_cons_succ]) | skip))
            refine stepTA [7] (by decide +kernel) (by decide) ?_
            intro i hi
            obtain rfl : i = 7 := by simpa using hi
            clear hi
            refine ⟨_, rfl, by rfl, ?_⟩
            intro K hK
            go_simp
            refine (KRS.out u41 M hM.out hyM.out hb.out Af cf hf.out).mono ?_
            rintro e u42 ⟨v', F', A', c', rfl, ra, hw, hm⟩
            have bb := hm.belowN (N := u41.heap.size) (fun k hk => hk.elim) (Nat.le_refl _)
            have sm := smBlk (b1 := w.heap.size) (b2 := w.heap.size + 1) bb (by have := hb.out.size; have := HN7.out; have := hN2.out; omega) (by have := hb.out.size; have := HN7.out; have := hN2.out; omega)
            have hFy := Lib.hid (show ∀ k, F' k → y.heap.size ≤ k from fun k hk => (hm.new _ hk).elim (fun h => h.elim) (fun h => Nat.le_trans hb.out.size h))
            have n9 := Lib.hid (show ¬ F' g9 from fun hf => (hm.new _ hf).elim (fun h => h) (fun h => by have := block_lt b9.out; omega))
            replace b9 := Lib.hid ((bb.block _ (block_lt b9.out)).trans b9.out)
            have n10 := Lib.hid (show ¬ F' g10 from fun hf => (hm.new _ hf).elim (fun h => h) (fun h => by have := block_lt b10.out; omega))
            replace b10 := Lib.hid ((bb.block _ (block_lt b10.out)).trans b10.out)
            replace hb := Lib.hid (hb.out.trans (bb.mono hb.out.size))
            replace hM := Lib.hid (Nat.le_trans hM.out bb.size)
            replace ra := Lib.hid ra
            replace hw := Lib.hid hw
            refine hK _ _ (.inr sm) ?_
            clear hK K sm bb hm hf
            try simp only [Act.put, List.setIfInBounds_toArray, List.set_cons_zero, List.set_cons_succ]
            ((first | (refine takeT 8 (v := ?_) rfl (by decide +kernel) (by decide +kernel) (by decide +kernel) (fun _ _ _ h => h) (by decide +kernel) (Or.inl ⟨by rfl, ?_⟩) ?_; rotate_left 1; (focus (intro W hW; have hcW := hW.at; (try dsimp only at hcW); go_simp; first | done | with_reducible rfl)); try simp only [Act.put, List.setIfInBounds_toArray, List.set_cons_zero, List.set_cons_succ]) | (refine takeW 8 (v := ?_) rfl (by decide +kernel) (by decide +kernel) (by decide +kernel) (fun _ _ _ h => h) (Or.inl ⟨by rfl, ?_⟩) ?_; rotate_left 1; (focus (intro W hW; go_simp; first | done | with_reducible rfl)); try simp only [Act.put, List.setIfInBounds_toArray, List.set_cons_zero, List.set_cons_succ]) | (refine takeW 8 rfl (by decide +kernel) (by decide +kernel) (by decide +kernel) (fun _ _ _ h => h) (Or.inr ⟨by rfl, rfl⟩) ?_; try simp only [Act.put, List.setIfInBounds_toArray, List.set_cons_zero, List.set_cons_succ]) | skip); (first | (refine takeT 9 (v := ?_) rfl (by decide +kernel) (by decide +kernel) (by decide +kernel) (fun _ _ _ h => h) (by decide +kernel) (Or.inl ⟨by rfl, ?_⟩) ?_; rotate_left 1; (focus (intro W hW; have hcW := hW.at; (try dsimp only at hcW); go_simp; first | done | with_reducible rfl)); try simp only [Act.put, List.setIfInBounds_toArray, List.set_cons_zero, List.set_cons_succ]) | (refine takeW 9 (v := ?_) rfl (by decide +kernel) (by decide +kernel) (by decide +kernel) (fun _ _ _ h => h) (Or.inl ⟨by rfl, ?_⟩) ?_; rotate_left 1; (focus (intro W hW; go_simp; first | done | with_reducible rfl)); try simp only [Act.put, List.setIfInBounds_toArray, List.set_cons_zero, List.set_cons_succ]) | (refine takeW 9 rfl (by decide +kernel) (by decide +kernel) (by decide +kernel) (fun _ _ _ h => h) (Or.inr ⟨by rfl, rfl⟩) ?_; try simp only [Act.put, List.setIfInBounds_toArray, List.set_cons_zero, List.set_cons_succ]) | skip); (first | (refine takeT 10 (v := ?_) rfl (by decide +kernel) (by decide +kernel) (by decide +kernel) (fun _ _ _ h => h) (by decide +kernel) (Or.inl ⟨by rfl, ?_⟩) ?_; rotate_left 1; (focus (intro W hW; have hcW := hW.at; (try dsimp only at hcW); go_simp; first | done | with_reducible rfl)); try simp only [Act.put, List.setIfInBounds_toArray, List.set_cons_zero, List.set_cons_succ]) | (refine takeW 10 (v := ?_) rfl (by decide +kernel) (by decide +kernel) (by decide +kernel) (fun _ _ _ h => h) (Or.inl ⟨by rfl, ?_⟩) ?_; rotate_left 1; (focus (intro W hW; go_simp; first | done | with_reducible rfl)); try simp only [Act.put, List.setIfInBounds_toArray, List.set_cons_zero, List.set_cons_succ]) | (refine takeW 10 rfl (by decide +kernel) (by decide +kernel) (by decide +kernel) (fun _ _ _ h => h) (Or.inr ⟨by rfl, rfl⟩) ?_; try simp only [Act.put, List.setIfInBounds_toArray, List.set_cons_zero, List.set_cons_succ]) | skip))
            obtain ⟨Aa, ca, Af2, cf2, A2', c2', A3', c3', rfl, hw1, hw2, hw3, hw4, hw5, hw6⟩ := hw.out
            have hwy := Hw7.out.size
            have hH := Lib.hid (hw3.rdl.mono (G := fun k => k ≠ g9 ∧ k ≠ g10) fun k hk => hk.elim (fun h => by have := l9.out; have := l10.out; have h1 : k < w.heap.size := h.1; omega) (fun h => ⟨fun e => n9.out (by rw [← e]; exact (hw6 k).2 (.inl h)), fun e => n10.out (by rw [← e]; exact (hw6 k).2 (.inl h))⟩))
            have hS := Lib.hid (hw4.rdl.mono (G := fun k => (k < w.heap.size ∨ y.heap.size ≤ k) ∧ k ≠ g9 ∧ k ≠ g10) fun k hk => hk.elim (fun h => by have := l9.out; have := l10.out; have h1 : k < w.heap.size := h.1; omega) (fun h => ⟨.inr (hFy.out k ((hw6 k).2 (.inr h))), fun e => n9.out (by rw [← e]; exact (hw6 k).2 (.inr h)), fun e => n10.out (by rw [← e]; exact (hw6 k).2 (.inr h))⟩))
            have hA := Lib.hid (ra.out.mono (G := fun k => k ≠ g9 ∧ k ≠ g10) fun k hk => by have := l9.out; have := l10.out; have h1 : k < w.heap.size := hk.1; omega)
            have ne2 := Lib.hid (show g9 ≠ g10 from (fun e => ne.out e.symm))
            clear hw1 hw2 hw3 hw4 hw5 hw6 hw ra hwy hFy
            refine stepT 13 rfl (by decide +kernel) (by rfl) ?_
            intro K hK
            refine wp_storeB flatRw (.tmp 9) (.tmp 52) rfl g9 rfl _ rfl b9.out rfl rfl rfl ?_
            intro z1 k1 hg1 hs1
            refine hK _ _ (.inl (by decide)) ?_
            clear hK K
            try simp only [Act.put, List.setIfInBounds_toArray, List.set_cons_zero, List.set_cons_succ]
            have b10z := grown_block hg1 b10.out (fun e => ne2.out (by injection e with e; exact e.symm))
            replace hH := Lib.hid (hH.out.grown hg1 (fun k hk => hk.1) (by decide))
            replace hS := Lib.hid (hS.out.grown hg1 (fun k hk => hk.2.1) (by decide))
            replace hA := Lib.hid (hA.out.grown hg1 fun k hk => hk.1)
            replace hb := Lib.hid (below_grown hb.out hg1 hb.out.size l9.out)
            have K1 := Lib.hid k1
            clear k1 hg1 hs1
            refine stepT 14 rfl (by decide +kernel) (by rfl) ?_
            intro K hK
            refine wp_storeB flatOut (.tmp 10) (.tmp 53) rfl g10 rfl _ rfl b10z rfl rfl rfl ?_
            intro z2 k2 hg2 hs2
            refine hK _ _ (.inl (by decide)) ?_
            clear hK K
            try simp only [Act.put, List.setIfInBounds_toArray, List.set_cons_zero, List.set_cons_succ]
            refine doneT (by kernel_rfl) ?_
            refine ⟨g9, g10, Aa, ca, Af2, cf2, A2', c2', A3', c3', A', c', _, _, _, _, _, _, _, _, _, _, _, rfl, grown_block hg2 K1.out (fun e => ne2.out (by injection e)), k2, ?_⟩
            exact ⟨(hA.out.grown hg2 fun k hk => hk.2).mono fun _ _ => trivial, (hH.out.grown hg2 (fun k hk => hk.2) (by decide)).mono fun _ _ => trivial, (hS.out.grown hg2 (fun k hk => hk.2.2) (by decide)).mono fun _ hk => hk.1, below_grown hb.out hg2 hb.out.size l10.out, l9.out, l10.out⟩
      · rintro act z ⟨g9, g10, Aa, ca, Af, cf, B2, e2, B3, e3, B4, e4, v43, v44, v45, v46, v47, v48, v49, v50, v51, v52, v53, rfl, k9, k10, ra, hH, hS, hb, hg9, hg10⟩
        have K9 := Lib.hid k9
        have K10 := Lib.hid k10
        have Ra := Lib.hid ra
        have HH := Lib.hid hH
        have HS := Lib.hid hS
        have Hbz := Lib.hid hb
        have Hg9 := Lib.hid hg9
        clear k9 k10 ra hH hS hb KF KRS d0 hg9 hg10
        obtain ⟨_, ⟨As, cs, vh, hs1, _, hs3⟩, hs4, hs5⟩ := Hd7.out
        obtain ⟨Ah, ch, rfl, hs6⟩ := hs3.rdl
        have hs2 : s'.2 = x6.heard := by rw [← Hs'.out]
        rw [hs2] at hs1 hs6
        have hy := Hbz.out.size
        have BN := Lib.hid ((Hbz.out.block _ (block_lt hs1)).trans hs1)
        have HD := Lib.hid ((hs6.lt (by decide)).keep (w' := z) fun k hk => Hbz.out.block k hk.2)
        have B7 := Lib.hid ((Hbz.out.block _ (block_lt K7.out)).trans K7.out)
        have R7 := Lib.hid ((Hr7.out.lt.keep (w' := z) fun k hk => Hbz.out.block k hk.2).mono (G := fun k => ((N < k ∧ ¬ F k) ∧ k ≠ g7) ∧ k < y.heap.size) fun k hk => hk)
        have L7 := Lib.hid (Hl7.out.below Hbz.out (by decide))
        have BP := Lib.hid ((Hbz.out.block _ (block_lt B02.out)).trans B02.out)
        have Hwz := Lib.hid (Hw7.out.trans (Hbz.out.mono Hw7.out.size))
        have KDS := Lib.hid fun (X : World) (h1 : RdL laySn F X A2 c2 x6.sent) (h2 : RdL laySn (fun k => k < w.heap.size ∨ y.heap.size ≤ k) X B3 e3 x6.sent) => differS_eq X _ _ A2 B3 c2 e3 x6.sent h1 h2 (by have := Hlen.out.1; simp at this; omega)
        have KDH := Lib.hid fun (X : World) F (h1 : RdL layPk F X Ah ch x6.heard) (h2 : RdL layPk (fun _ => True) X B2 e2 x6.heard) => differ_eq X F _ Ah B2 ch e2 x6.heard h1 h2 (by have := Hlen.out.2; simp at this; omega)
        have t0 := block_lt BP.out
        have t1 := block_lt B7.out
        have t2 := block_lt K9.out
        have t3 := block_lt K10.out
        have t4 := block_lt BN.out
        have T := Lib.hid (show w.heap.size < z.heap.size ∧ g7 < z.heap.size ∧ g9 < z.heap.size ∧ g10 < z.heap.size ∧ N < z.heap.size from ⟨t0, t1, t2, t3, t4⟩)
        have Hg7y := Lib.hid (block_lt K7.out)
        clear hs1 hs2 hs3 hs4 hs5 hs6 t0 t1 t2 t3 t4
        go_wp2
        refine startTP (S := fun a => a.block = w.heap.size ∨ a.block = g7 ∨ a.block = g9 ∨ a.block = g10 ∨ a.block = N ∨ a.block < z.heap.size) (T := []) (fun X => Below z.heap.size z X) 31 (by kernel_rfl) rfl (l := #[false, false, false, false, false, false, false, false, false, false, false, false, false, false, false, false, false, false, false, false, false, false, false, false, false, false, false, false, false, false, false]) rfl (Below.refl _ _).drew ?_
        rintro x0 hb
        have hbk : ∀ {k o}, z.heap[k]? = some o → x0.heap[k]? = some o := fun h => (hb.block _ (block_lt h)).trans h
        have d1 := block_at (hbk B7.out) (i := 0) (v := .int .u8 (res : Int)) rfl
        have d2 := block_at (hbk K10.out) (i := 0) (v := .int .u8 (res : Int)) rfl
        have d3 := block_at (hbk B7.out) (i := 1) (v := .slice A1 out.length c1) rfl
        have d4 := block_at (hbk K10.out) (i := 1) (v := .slice B4 out.length e4) rfl
        have d5 := block_at (hbk K9.out) (i := 3) (v := .slice B3 x6.sent.length e3) rfl
        have d6 := block_at (hbk K9.out) (i := 2) (v := .slice B2 x6.heard.length e2) rfl
        have d7 := block_at (hbk BN.out) (i := 1) (v := .slice Ah x6.heard.length ch) rfl
        clear hbk
        have r1 := (R7.out.rds.lt.keep (w' := x0) fun k hk => hb.block k hk.2)
        have r2 := (Ra.out.lt.keep (w' := x0) fun k hk => hb.block k hk.2)
        have R1 := Lib.hid r1
        have R2 := Lib.hid r2
        clear r1 r2 hy
        replace hb := Lib.hid hb
        ((first | (refine takeT 0 (v := ?_) rfl (by decide +kernel) (by decide +kernel) (by decide +kernel) (fun _ _ _ h => h) (by decide +kernel) (Or.inl ⟨by rfl, ?_⟩) ?_; rotate_left 1; (focus (intro W hW; have hcW := hW.at; (try dsimp only at hcW); go_simp; first | done | with_reducible rfl)); try simp only [Act.put, List.setIfInBounds_toArray, List.set_cons_zero, List.set_cons_succ]) | (refine takeW 0 (v := ?_) rfl (by decide +kernel) (by decide +kernel) (by decide +kernel) (fun _ _ _ h => h) (Or.inl ⟨by rfl, ?_⟩) ?_; rotate_left 1; (focus (intro W hW; go_simp; first | done | with_reducible rfl)); try simp only [Act.put, List.setIfInBounds_toArray, List.set_cons_zero, List.set_cons_succ]) | (refine takeW 0 rfl (by decide +kernel) (by decide +kernel) (by decide +kernel) (fun _ _ _ h => h) (Or.inr ⟨by rfl, rfl⟩) ?_; try simp only [Act.put, List.setIfInBounds_toArray, List.set_cons_zero, List.set_cons_succ]) | skip); (first | (refine takeT 1 (v := ?_) rfl (by decide +kernel) (by decide +kernel) (by decide +kernel) (fun _ _ _ h => h) (by decide +kernel) (Or.inl ⟨by rfl, ?_⟩) ?_; rotate_left 1; (focus (intro W hW; have hcW := hW.at; (try dsimp only at hcW); go_simp; first | done | with_reducible rfl)); try simp only [Act.put, List.setIfInBounds_toArray, List.set_cons_zero, List.set_cons_succ]) | (refine takeW 1 (v := ?_) rfl (by decide +kernel) (by decide +kernel) (by decide +kernel) (fun _ _ _ h => h) (Or.inl ⟨by rfl, ?_⟩) ?_; rotate_left 1; (focus (intro W hW; go_simp; first | done | with_reducible rfl)); try simp only [Act.put, List.setIfInBounds_toArray, List.set_cons_zero, List.set_cons_succ]) | (refine takeW 1 rfl (by decide +kernel) (by decide +kernel) (by decide +kernel) (fun _ _ _ h => h) (Or.inr ⟨by rfl, rfl⟩) ?_; try simp only [Act.put, List.setIfInBounds_toArray, List.set_cons_zero, List.set_cons_succ]) | skip); (first | (refine takeT 2 (v := ?_) rfl (by decide +kernel) (by decide +kernel) (by decide +kernel) (fun _ _ _ h => h) (by decide +kernel) (Or.inl ⟨by rfl, ?_⟩) ?_; rotate_left 1; (focus (intro W hW; have hcW := hW.at; (try dsimp only at hcW); go_simp; first | done | with_reducible rfl)); try simp only [Act.put, List.setIfInBounds_toArray, List.set_cons_zero, List.set_cons_succ]) | (refine takeW 2 (v := ?_) rfl (by decide +kernel) (by decide +kernel) (by decide +kernel) (fun _ _ _ h => h) (Or.inl ⟨by rfl, ?_⟩) ?_; rotate_left 1; (focus (intro W hW; go_simp; first | done | with_reducible rfl)); try simp only [Act.put, List.setIfInBounds_toArray, List.set_cons_zero, List.set_cons_succ]) | (refine takeW 2 rfl (by decide +kernel) (by decide +kernel) (by decide +kernel) (fun _ _ _ h => h) (Or.inr ⟨by rfl, rfl⟩) ?_; try simp only [Act.put, List.setIfInBounds_toArray, List.set_cons_zero, List.set_cons_succ]) | skip); (first | (refine takeT 3 (v := ?_) rfl (by decide +kernel) (by decide +kernel) (by decide +kernel) (fun _ _ _ h => h) (by decide +kernel) (Or.inl ⟨by rfl, ?_⟩) ?_; rotate_left 1; (focus (intro W hW; have hcW := hW.at; (try dsimp only at hcW); go_simp; first | done | with_reducible rfl)); try simp only [Act.put, List.setIfInBounds_toArray, List.set_cons_zero, List.set_cons_succ]) | (refine takeW 3 (v := ?_) rfl (by decide +kernel) (by decide +kernel) (by decide +kernel) (fun _ _ _ h => h) (Or.inl ⟨by rfl, ?_⟩) ?_; rotate_left 1; (focus (intro W hW; go_simp; first | done | with_reducible rfl)); try simp only [Act.put, List.setIfInBounds_toArray, List.set_cons_zero, List.set_cons_succ]) | (refine takeW 3 rfl (by decide +kernel) (by decide +kernel) (by decide +kernel) (fun _ _ _ h => h) (Or.inr ⟨by rfl, rfl⟩) ?_; try simp only [Act.put, List.setIfInBounds_toArray, List.set_cons_zero, List.set_cons_succ]) | skip); (first | (refine takeT 4 (v := ?_) rfl (by decide +kernel) (by decide +kernel) (by decide +kernel) (fun _ _ _ h => h) (by decide +kernel) (Or.inl ⟨by rfl, ?_⟩) ?_; rotate_left 1; (focus (intro W hW; have hcW := hW.at; (try dsimp only at hcW); go_simp; first | done | with_reducible rfl)); try simp only [Act.put, List.setIfInBounds_toArray, List.set_cons_zero, List.set_cons_succ]) | (refine takeW 4 (v := ?_) rfl (by decide +kernel) (by decide +kernel) (by decide +kernel) (fun _ _ _ h => h) (Or.inl ⟨by rfl, ?_⟩) ?_; rotate_left 1; (focus (intro W hW; go_simp; first | done | with_reducible rfl)); try simp only [Act.put, List.setIfInBounds_toArray, List.set_cons_zero, List.set_cons_succ]) | (refine takeW 4 rfl (by decide +kernel) (by decide +kernel) (by decide +kernel) (fun _ _ _ h => h) (Or.inr ⟨by rfl, rfl⟩) ?_; try simp only [Act.put, List.setIfInBounds_toArray, List.set_cons_zero, List.set_cons_succ]) | skip); (first | (refine takeT 5 (v := ?_) rfl (by decide +kernel) (by decide +kernel) (by decide +kernel) (fun _ _ _ h => h) (by decide +kernel) (Or.inl ⟨by rfl, ?_⟩) ?_; rotate_left 1; (focus (intro W hW; have hcW := hW.at; (try dsimp only at hcW); go_simp; first | done | with_reducible rfl)); try simp only [Act.put, List.setIfInBounds_toArray, List.set_cons_zero, List.set_cons_succ]) | (refine takeW 5 (v := ?_) rfl (by decide +kernel) (by decide +kernel) (by decide +kernel) (fun _ _ _ h => h) (Or.inl ⟨by rfl, ?_⟩) ?_; rotate_left 1; (focus (intro W hW; go_simp; first | done | with_reducible rfl)); try simp only [Act.put, List.setIfInBounds_toArray, List.set_cons_zero, List.set_cons_succ]) | (refine takeW 5 rfl (by decide +kernel) (by decide +kernel) (by decide +kernel) (fun _ _ _ h => h) (Or.inr ⟨by rfl, rfl⟩) ?_; try simp only [Act.put, List.setIfInBounds_toArray, List.set_cons_zero, List.set_cons_succ]) | skip); (first | (refine takeT 6 (v := ?_) rfl (by decide +kernel) (by decide +kernel) (by decide +kernel) (fun _ _ _ h => h) (by decide +kernel) (Or.inl ⟨by rfl, ?_⟩) ?_; rotate_left 1; (focus (intro W hW; have hcW := hW.at; (try dsimp only at hcW); go_simp; first | done | with_reducible rfl)); try simp only [Act.put, List.setIfInBounds_toArray, List.set_cons_zero, List.set_cons_succ]) | (refine takeW 6 (v := ?_) rfl (by decide +kernel) (by decide +kernel) (by decide +kernel) (fun _ _ _ h => h) (Or.inl ⟨by rfl, ?_⟩) ?_; rotate_left 1; (focus (intro W hW; go_simp; first | done | with_reducible rfl)); try simp only [Act.put, List.setIfInBounds_toArray, List.set_cons_zero, List.set_cons_succ]) | (refine takeW 6 rfl (by decide +kernel) (by decide +kernel) (by decide +kernel) (fun _ _ _ h => h) (Or.inr ⟨by rfl, rfl⟩) ?_; try simp only [Act.put, List.setIfInBounds_toArray, List.set_cons_zero, List.set_cons_succ]) | skip); (first | (refine takeT 7 (v := ?_) rfl (by decide +kernel) (by decide +kernel) (by decide +kernel) (fun _ _ _ h => h) (by decide +kernel) (Or.inl ⟨by rfl, ?_⟩) ?_; rotate_left 1; (focus (intro W hW; have hcW := hW.at; (try dsimp only at hcW); go_simp; first | done | with_reducible rfl)); try simp only [Act.put, List.setIfInBounds_toArray, List.set_cons_zero, List.set_cons_succ]) | (refine takeW 7 (v := ?_) rfl (by decide +kernel) (by decide +kernel) (by decide +kernel) (fun _ _ _ h => h) (Or.inl ⟨by rfl, ?_⟩) ?_; rotate_left 1; (focus (intro W hW; go_simp; first | done | with_reducible rfl)); try simp only [Act.put, List.setIfInBounds_toArray, List.set_cons_zero, List.set_cons_succ]) | (refine takeW 7 rfl (by decide +kernel) (by decide +kernel) (by decide +kernel) (fun _ _ _ h => h) (Or.inr ⟨by rfl, rfl⟩) ?_; try simp only [Act.put, List.setIfInBounds_toArray, List.set_cons_zero, List.set_cons_succ]) | skip))
        refine takeT 8 (v := .string ⟨out.toArray⟩) rfl (by decide +kernel) (by decide +kernel) (by decide +kernel) (fun _ _ _ h => h) (by decide +kernel) (Or.inl ⟨by rfl, ?_⟩) ?_
        · intro W hW
          have hcv : (convert 22 9 (.slice A1 out.length c1)).run Tryd.prog W = .ok (.string ⟨out.toArray⟩) W := ((R1.out.sm hW fun b o hk => .inr (.inr (.inr (.inr (.inr hk.2))))).rdT).str Tryd.underlying22 Tryd.underlying5 Tryd.underlying9
          go_simp
          first | done | with_reducible rfl
        try simp only [Act.put, List.setIfInBounds_toArray, List.set_cons_zero, List.set_cons_succ]
        ((first | (refine takeT 9 (v := ?_) rfl (by decide +kernel) (by decide +kernel) (by decide +kernel) (fun _ _ _ h => h) (by decide +kernel) (Or.inl ⟨by rfl, ?_⟩) ?_; rotate_left 1; (focus (intro W hW; have hcW := hW.at; (try dsimp only at hcW); go_simp; first | done | with_reducible rfl)); try simp only [Act.put, List.setIfInBounds_toArray, List.set_cons_zero, List.set_cons_succ]) | (refine takeW 9 (v := ?_) rfl (by decide +kernel) (by decide +kernel) (by decide +kernel) (fun _ _ _ h => h) (Or.inl ⟨by rfl, ?_⟩) ?_; rotate_left 1; (focus (intro W hW; go_simp; first | done | with_reducible rfl)); try simp only [Act.put, List.setIfInBounds_toArray, List.set_cons_zero, List.set_cons_succ]) | (refine takeW 9 rfl (by decide +kernel) (by decide +kernel) (by decide +kernel) (fun _ _ _ h => h) (Or.inr ⟨by rfl, rfl⟩) ?_; try simp only [Act.put, List.setIfInBounds_toArray, List.set_cons_zero, List.set_cons_succ]) | skip); (first | (refine takeT 10 (v := ?_) rfl (by decide +kernel) (by decide +kernel) (by decide +kernel) (fun _ _ _ h => h) (by decide +kernel) (Or.inl ⟨by rfl, ?_⟩) ?_; rotate_left 1; (focus (intro W hW; have hcW := hW.at; (try dsimp only at hcW); go_simp; first | done | with_reducible rfl)); try simp only [Act.put, List.setIfInBounds_toArray, List.set_cons_zero, List.set_cons_succ]) | (refine takeW 10 (v := ?_) rfl (by decide +kernel) (by decide +kernel) (by decide +kernel) (fun _ _ _ h => h) (Or.inl ⟨by rfl, ?_⟩) ?_; rotate_left 1; (focus (intro W hW; go_simp; first | done | with_reducible rfl)); try simp only [Act.put, List.setIfInBounds_toArray, List.set_cons_zero, List.set_cons_succ]) | (refine takeW 10 rfl (by decide +kernel) (by decide +kernel) (by decide +kernel) (fun _ _ _ h => h) (Or.inr ⟨by rfl, rfl⟩) ?_; try simp only [Act.put, List.setIfInBounds_toArray, List.set_cons_zero, List.set_cons_succ]) | skip))
        refine takeT 11 (v := .string ⟨out.toArray⟩) rfl (by decide +kernel) (by decide +kernel) (by decide +kernel) (fun _ _ _ h => h) (by decide +kernel) (Or.inl ⟨by rfl, ?_⟩) ?_
        · intro W hW
          have hcv : (convert 22 9 (.slice B4 out.length e4)).run Tryd.prog W = .ok (.string ⟨out.toArray⟩) W := ((R2.out.sm hW fun b o hk => .inr (.inr (.inr (.inr (.inr hk.2))))).rdT).str Tryd.underlying22 Tryd.underlying5 Tryd.underlying9
          go_simp
          first | done | with_reducible rfl
        try simp only [Act.put, List.setIfInBounds_toArray, List.set_cons_zero, List.set_cons_succ]
        clear d1 d2 d3 d4
        ((first | (refine takeT 12 (v := ?_) rfl (by decide +kernel) (by decide +kernel) (by decide +kernel) (fun _ _ _ h => h) (by decide +kernel) (Or.inl ⟨by rfl, ?_⟩) ?_; rotate_left 1; (focus (intro W hW; have hcW := hW.at; (try dsimp only at hcW); go_simp; first | done | with_reducible rfl)); try simp only [Act.put, List.setIfInBounds_toArray, List.set_cons_zero, List.set_cons_succ]) | (refine takeW 12 (v := ?_) rfl (by decide +kernel) (by decide +kernel) (by decide +kernel) (fun _ _ _ h => h) (Or.inl ⟨by rfl, ?_⟩) ?_; rotate_left 1; (focus (intro W hW; go_simp; first | done | with_reducible rfl)); try simp only [Act.put, List.setIfInBounds_toArray, List.set_cons_zero, List.set_cons_succ]) | (refine takeW 12 rfl (by decide +kernel) (by decide +kernel) (by decide +kernel) (fun _ _ _ h => h) (Or.inr ⟨by rfl, rfl⟩) ?_; try simp only [Act.put, List.setIfInBounds_toArray, List.set_cons_zero, List.set_cons_succ]) | skip); (first | (refine takeT 13 (v := ?_) rfl (by decide +kernel) (by decide +kernel) (by decide +kernel) (fun _ _ _ h => h) (by decide +kernel) (Or.inl ⟨by rfl, ?_⟩) ?_; rotate_left 1; (focus (intro W hW; have hcW := hW.at; (try dsimp only at hcW); go_simp; first | done | with_reducible rfl)); try simp only [Act.put, List.setIfInBounds_toArray, List.set_cons_zero, List.set_cons_succ]) | (refine takeW 13 (v := ?_) rfl (by decide +kernel) (by decide +kernel) (by decide +kernel) (fun _ _ _ h => h) (Or.inl ⟨by rfl, ?_⟩) ?_; rotate_left 1; (focus (intro W hW; go_simp; first | done | with_reducible rfl)); try simp only [Act.put, List.setIfInBounds_toArray, List.set_cons_zero, List.set_cons_succ]) | (refine takeW 13 rfl (by decide +kernel) (by decide +kernel) (by decide +kernel) (fun _ _ _ h => h) (Or.inr ⟨by rfl, rfl⟩) ?_; try simp only [Act.put, List.setIfInBounds_toArray, List.set_cons_zero, List.set_cons_succ]) | skip); (first | (refine takeT 14 (v := ?_) rfl (by decide +kernel) (by decide +kernel) (by decide +kernel) (fun _ _ _ h => h) (by decide +kernel) (Or.inl ⟨by rfl, ?_⟩) ?_; rotate_left 1; (focus (intro W hW; have hcW := hW.at; (try dsimp only at hcW); go_simp; first | done | with_reducible rfl)); try simp only [Act.put, List.setIfInBounds_toArray, List.set_cons_zero, List.set_cons_succ]) | (refine takeW 14 (v := ?_) rfl (by decide +kernel) (by decide +kernel) (by decide +kernel) (fun _ _ _ h => h) (Or.inl ⟨by rfl, ?_⟩) ?_; rotate_left 1; (focus (intro W hW; go_simp; first | done | with_reducible rfl)); try simp only [Act.put, List.setIfInBounds_toArray, List.set_cons_zero, List.set_cons_succ]) | (refine takeW 14 rfl (by decide +kernel) (by decide +kernel) (by decide +kernel) (fun _ _ _ h => h) (Or.inr ⟨by rfl, rfl⟩) ?_; try simp only [Act.put, List.setIfInBounds_toArray, List.set_cons_zero, List.set_cons_succ]) | skip); (first | (refine takeT 15 (v := ?_) rfl (by decide +kernel) (by decide +kernel) (by decide +kernel) (fun _ _ _ h => h) (by decide +kernel) (Or.inl ⟨by rfl, ?_⟩) ?_; rotate_left 1; (focus (intro W hW; have hcW := hW.at; (try dsimp only at hcW); go_simp; first | done | with_reducible rfl)); try simp only [Act.put, List.setIfInBounds_toArray, List.set_cons_zero, List.set_cons_succ]) | (refine takeW 15 (v := ?_) rfl (by decide +kernel) (by decide +kernel) (by decide +kernel) (fun _ _ _ h => h) (Or.inl ⟨by rfl, ?_⟩) ?_; rotate_left 1; (focus (intro W hW; go_simp; first | done | with_reducible rfl)); try simp only [Act.put, List.setIfInBounds_toArray, List.set_cons_zero, List.set_cons_succ]) | (refine takeW 15 rfl (by decide +kernel) (by decide +kernel) (by decide +kernel) (fun _ _ _ h => h) (Or.inr ⟨by rfl, rfl⟩) ?_; try simp only [Act.put, List.setIfInBounds_toArray, List.set_cons_zero, List.set_cons_succ]) | skip); (first | (refine takeT 16 (v := ?_) rfl (by decide +kernel) (by decide +kernel) (by decide +kernel) (fun _ _ _ h => h) (by decide +kernel) (Or.inl ⟨by rfl, ?_⟩) ?_; rotate_left 1; (focus (intro W hW; have hcW := hW.at; (try dsimp only at hcW); go_simp; first | done | with_reducible rfl)); try simp only [Act.put, List.setIfInBounds_toArray, List.set_cons_zero, List.set_cons_succ]) | (refine takeW 16 (v := ?_) rfl (by decide +kernel) (by decide +kernel) (by decide +kernel) (fun _ _ _ h => h) (Or.inl ⟨by rfl, ?_⟩) ?_; rotate_left 1; (focus (intro W hW; go_simp; first | done | with_reducible rfl)); try simp only [Act.put, List.setIfInBounds_toArray, List.set_cons_zero, List.set_cons_succ]) | (refine takeW 16 rfl (by decide +kernel) (by decide +kernel) (by decide +kernel) (fun _ _ _ h => h) (Or.inr ⟨by rfl, rfl⟩) ?_; try simp only [Act.put, List.setIfInBounds_toArray, List.set_cons_zero, List.set_cons_succ]) | skip); (first | (refine takeT 17 (v := ?_) rfl (by decide +kernel) (by decide +kernel) (by decide +kernel) (fun _ _ _ h => h) (by decide +kernel) (Or.inl ⟨by rfl, ?_⟩) ?_; rotate_left 1; (focus (intro W hW; have hcW := hW.at; (try dsimp only at hcW); go_simp; first | done | with_reducible rfl)); try simp only [Act.put, List.setIfInBounds_toArray, List.set_cons_zero, List.set_cons_succ]) | (refine takeW 17 (v := ?_) rfl (by decide +kernel) (by decide +kernel) (by decide +kernel) (fun _ _ _ h => h) (Or.inl ⟨by rfl, ?_⟩) ?_; rotate_left 1; (focus (intro W hW; go_simp; first | done | with_reducible rfl)); try simp only [Act.put, List.setIfInBounds_toArray, List.set_cons_zero, List.set_cons_succ]) | (refine takeW 17 rfl (by decide +kernel) (by decide +kernel) (by decide +kernel) (fun _ _ _ h => h) (Or.inr ⟨by rfl, rfl⟩) ?_; try simp only [Act.put, List.setIfInBounds_toArray, List.set_cons_zero, List.set_cons_succ]) | skip))
        refine stepT 18 rfl (by decide +kernel) (by rfl) ?_
        intro K hK
        go_simp
        refine (KDS.out x0 (L7.out.below hb.out (by decide)) (HS.out.below hb.out (by decide))).mono ?_
        rintro e x2 ⟨rfl, bb⟩
        have sm := smBlk6 bb (Nat.lt_of_lt_of_le T.out.1 hb.out.size) (Nat.lt_of_lt_of_le T.out.2.1 hb.out.size) (Nat.lt_of_lt_of_le T.out.2.2.1 hb.out.size) (Nat.lt_of_lt_of_le T.out.2.2.2.1 hb.out.size) (Nat.lt_of_lt_of_le T.out.2.2.2.2 hb.out.size) hb.out.size
        refine hK _ _ (.inr sm) ?_
        clear hK K
        try simp only [Act.put, List.setIfInBounds_toArray, List.set_cons_zero, List.set_cons_succ]
        replace d6 := (sm _ (by simp)).trans d6
        replace d7 := (sm _ (by simp)).trans d7
        replace hb := Lib.hid (hb.out.trans (bb.mono hb.out.size))
        clear sm bb d5 R1 R2
        ((first | (refine takeT 19 (v := ?_) rfl (by decide +kernel) (by decide +kernel) (by decide +kernel) (fun _ _ _ h => h) (by decide +kernel) (Or.inl ⟨by rfl, ?_⟩) ?_; rotate_left 1; (focus (intro W hW; have hcW := hW.at; (try dsimp only at hcW); go_simp; first | done | with_reducible rfl)); try simp only [Act.put, List.setIfInBounds_toArray, List.set_cons_zero, List.set_cons_succ]) | (refine takeW 19 (v := ?_) rfl (by decide +kernel) (by decide +kernel) (by decide +kernel) (fun _ _ _ h => h) (Or.inl ⟨by rfl, ?_⟩) ?_; rotate_left 1; (focus (intro W hW; go_simp; first | done | with_reducible rfl)); try simp only [Act.put, List.setIfInBounds_toArray, List.set_cons_zero, List.set_cons_succ]) | (refine takeW 19 rfl (by decide +kernel) (by decide +kernel) (by decide +kernel) (fun _ _ _ h => h) (Or.inr ⟨by rfl, rfl⟩) ?_; try simp only [Act.put, List.setIfInBounds_toArray, List.set_cons_zero, List.set_cons_succ]) | skip); (first | (refine takeT 20 (v := ?_) rfl (by decide +kernel) (by decide +kernel) (by decide +kernel) (fun _ _ _ h => h) (by decide +kernel) (Or.inl ⟨by rfl, ?_⟩) ?_; rotate_left 1; (focus (intro W hW; have hcW := hW.at; (try dsimp only at hcW); go_simp; first | done | with_reducible rfl)); try simp only [Act.put, List.setIfInBounds_toArray, List.set_cons_zero, List.set_cons_succ]) | (refine takeW 20 (v := ?_) rfl (by decide +kernel) (by decide +kernel) (by decide +kernel) (fun _ _ _ h => h) (Or.inl ⟨by rfl, ?_⟩) ?_; rotate_left 1; (focus (intro W hW; go_simp; first | done | with_reducible rfl)); try simp only [Act.put, List.setIfInBounds_toArray, List.set_cons_zero, List.set_cons_succ]) | (refine takeW 20 rfl (by decide +kernel) (by decide +kernel) (by decide +kernel) (fun _ _ _ h => h) (Or.inr ⟨by rfl, rfl⟩) ?_; try simp only [Act.put, List.setIfInBounds_toArray, List.set_cons_zero, List.set_cons_succ]) | skip); (first | (refine takeT 21 (v := ?_) rfl (by decide +kernel) (by decide +kernel) (by decide +kernel) (fun _ _ _ h => h) (by decide +kernel) (Or.inl ⟨by rfl, ?_⟩) ?_; rotate_left 1; (focus (intro W hW; have hcW := hW.at; (try dsimp only at hcW); go_simp; first | done | with_reducible rfl)); try simp only [Act.put, List.setIfInBounds_toArray, List.set_cons_zero, List.set_cons_succ]) | (refine takeW 21 (v := ?_) rfl (by decide +kernel) (by decide +kernel) (by decide +kernel) (fun _ _ _ h => h) (Or.inl ⟨by rfl, ?_⟩) ?_; rotate_left 1; (focus (intro W hW; go_simp; first | done | with_reducible rfl)); try simp only [Act.put, List.setIfInBounds_toArray, List.set_cons_zero, List.set_cons_succ]) | (refine takeW 21 rfl (by decide +kernel) (by decide +kernel) (by decide +kernel) (fun _ _ _ h => h) (Or.inr ⟨by rfl, rfl⟩) ?_; try simp only [Act.put, List.setIfInBounds_toArray, List.set_cons_zero, List.set_cons_succ]) | skip); (first | (refine takeT 22 (v := ?_) rfl (by decide +kernel) (by decide +kernel) (by decide +kernel) (fun _ _ _ h => h) (by decide +kernel) (Or.inl ⟨by rfl, ?_⟩) ?_; rotate_left 1; (focus (intro W hW; have hcW := hW.at; (try dsimp only at hcW); go_simp; first | done | with_reducible rfl)); try simp only [Act.put, List.setIfInBounds_toArray, List.set_cons_zero, List.set_cons_succ]) | (refine takeW 22 (v := ?_) rfl (by decide +kernel) (by decide +kernel) (by decide +kernel) (fun _ _ _ h => h) (Or.inl ⟨by rfl, ?_⟩) ?_; rotate_left 1; (focus (intro W hW; go_simp; first | done | with_reducible rfl)); try simp only [Act.put, List.setIfInBounds_toArray, List.set_cons_zero, List.set_cons_succ]) | (refine takeW 22 rfl (by decide +kernel) (by decide +kernel) (by decide +kernel) (fun _ _ _ h => h) (Or.inr ⟨by rfl, rfl⟩) ?_; try simp only [Act.put, List.setIfInBounds_toArray, List.set_cons_zero, List.set_cons_succ]) | skip); (first | (refine takeT 23 (v := ?_) rfl (by decide +kernel) (by decide +kernel) (by decide +kernel) (fun _ _ _ h => h) (by decide +kernel) (Or.inl ⟨by rfl, ?_⟩) ?_; rotate_left 1; (focus (intro W hW; have hcW := hW.at; (try dsimp only at hcW); go_simp; first | done | with_reducible rfl)); try simp only [Act.put, List.setIfInBounds_toArray, List.set_cons_zero, List.set_cons_succ]) | (refine takeW 23 (v := ?_) rfl (by decide +kernel) (by decide +kernel) (by decide +kernel) (fun _ _ _ h => h) (Or.inl ⟨by rfl, ?_⟩) ?_; rotate_left 1; (focus (intro W hW; go_simp; first | done | with_reducible rfl)); try simp only [Act.put, List.setIfInBounds_toArray, List.set_cons_zero, List.set_cons_succ]) | (refine takeW 23 rfl (by decide +kernel) (by decide +kernel) (by decide +kernel) (fun _ _ _ h => h) (Or.inr ⟨by rfl, rfl⟩) ?_; try simp only [Act.put, List.setIfInBounds_toArray, List.set_cons_zero, List.set_cons_succ]) | skip); (first | (refine takeT 24 (v := ?_) rfl (by decide +kernel) (by decide +kernel) (by decide +kernel) (fun _ _ _ h => h) (by decide +kernel) (Or.inl ⟨by rfl, ?_⟩) ?_; rotate_left 1; (focus (intro W hW; have hcW := hW.at; (try dsimp only at hcW); go_simp; first | done | with_reducible rfl)); try simp only [Act.put, List.setIfInBounds_toArray, List.set_cons_zero, List.set_cons_succ]) | (refine takeW 24 (v := ?_) rfl (by decide +kernel) (by decide +kernel) (by decide +kernel) (fun _ _ _ h => h) (Or.inl ⟨by rfl, ?_⟩) ?_; rotate_left 1; (focus (intro W hW; go_simp; first | done | with_reducible rfl)); try simp only [Act.put, List.setIfInBounds_toArray, List.set_cons_zero, List.set_cons_succ]) | (refine takeW 24 rfl (by decide +kernel) (by decide +kernel) (by decide +kernel) (fun _ _ _ h => h) (Or.inr ⟨by rfl, rfl⟩) ?_; try simp only [Act.put, List.setIfInBounds_toArray, List.set_cons_zero, List.set_cons_succ]) | skip); (first | (refine takeT 25 (v := ?_) rfl (by decide +kernel) (by decide +kernel) (by decide +kernel) (fun _ _ _ h => h) (by decide +kernel) (Or.inl ⟨by rfl, ?_⟩) ?_; rotate_left 1; (focus (intro W hW; have hcW := hW.at; (try dsimp only at hcW); go_simp; first | done | with_reducible rfl)); try simp only [Act.put, List.setIfInBounds_toArray, List.set_cons_zero, List.set_cons_succ]) | (refine takeW 25 (v := ?_) rfl (by decide +kernel) (by decide +kernel) (by decide +kernel) (fun _ _ _ h => h) (Or.inl ⟨by rfl, ?_⟩) ?_; rotate_left 1; (focus (intro W hW; go_simp; first | done | with_reducible rfl)); try simp only [Act.put, List.setIfInBounds_toArray, List.set_cons_zero, List.set_cons_succ]) | (refine takeW 25 rfl (by decide +kernel) (by decide +kernel) (by decide +kernel) (fun _ _ _ h => h) (Or.inr ⟨by rfl, rfl⟩) ?_; try simp only [Act.put, List.setIfInBounds_toArray, List.set_cons_zero, List.set_cons_succ]) | skip); (first | (refine takeT 26 (v := ?_) rfl (by decide +kernel) (by decide +kernel) (by decide +kernel) (fun _ _ _ h => h) (by decide +kernel) (Or.inl ⟨by rfl, ?_⟩) ?_; rotate_left 1; (focus (intro W hW; have hcW := hW.at; (try dsimp only at hcW); go_simp; first | done | with_reducible rfl)); try simp only [Act.put, List.setIfInBounds_toArray, List.set_cons_zero, List.set_cons_succ]) | (refine takeW 26 (v := ?_) rfl (by decide +kernel) (by decide +kernel) (by decide +kernel) (fun _ _ _ h => h) (Or.inl ⟨by rfl, ?_⟩) ?_; rotate_left 1; (focus (intro W hW; go_simp; first | done | with_reducible rfl)); try simp only [Act.put, List.setIfInBounds_toArray, List.set_cons_zero, List.set_cons_succ]) | (refine takeW 26 rfl (by decide +kernel) (by decide +kernel) (by decide +kernel) (fun _ _ _ h => h) (Or.inr ⟨by rfl, rfl⟩) ?_; try simp only [Act.put, List.setIfInBounds_toArray, List.set_cons_zero, List.set_cons_succ]) | skip); (first | (refine takeT 27 (v := ?_) rfl (by decide +kernel) (by decide +kernel) (by decide +kernel) (fun _ _ _ h => h) (by decide +kernel) (Or.inl ⟨by rfl, ?_⟩) ?_; rotate_left 1; (focus (intro W hW; have hcW := hW.at; (try dsimp only at hcW); go_simp; first | done | with_reducible rfl)); try simp only [Act.put, List.setIfInBounds_toArray, List.set_cons_zero, List.set_cons_succ]) | (refine takeW 27 (v := ?_) rfl (by decide +kernel) (by decide +kernel) (by decide +kernel) (fun _ _ _ h => h) (Or.inl ⟨by rfl, ?_⟩) ?_; rotate_left 1; (focus (intro W hW; go_simp; first | done | with_reducible rfl)); try simp only [Act.put, List.setIfInBounds_toArray, List.set_cons_zero, List.set_cons_succ]) | (refine takeW 27 rfl (by decide +kernel) (by decide +kernel) (by decide +kernel) (fun _ _ _ h => h) (Or.inr ⟨by rfl, rfl⟩) ?_; try simp only [Act.put, List.setIfInBounds_toArray, List.set_cons_zero, List.set_cons_succ]) | skip))
        refine stepT 28 rfl (by decide +kernel) (by rfl) ?_
        intro K hK
        go_simp
        refine (KDH.out x2 _ (HD.out.below hb.out (by decide)) (HH.out.below hb.out (by decide))).mono ?_
        rintro e x3 ⟨rfl, bb⟩
        have sm := smBlk6 bb (Nat.lt_of_lt_of_le T.out.1 hb.out.size) (Nat.lt_of_lt_of_le T.out.2.1 hb.out.size) (Nat.lt_of_lt_of_le T.out.2.2.1 hb.out.size) (Nat.lt_of_lt_of_le T.out.2.2.2.1 hb.out.size) (Nat.lt_of_lt_of_le T.out.2.2.2.2 hb.out.size) hb.out.size
        refine hK _ _ (.inr sm) ?_
        clear hK K
        try simp only [Act.put, List.setIfInBounds_toArray, List.set_cons_zero, List.set_cons_succ]
        replace hb := Lib.hid (hb.out.trans (bb.mono hb.out.size))
        clear sm bb d6 d7
        ((first | (refine takeT 29 (v := ?_) rfl (by decide +kernel) (by decide +kernel) (by decide +kernel) (fun _ _ _ h => h) (by decide +kernel) (Or.inl ⟨by rfl, ?_⟩) ?_; rotate_left 1; (focus (intro W hW; have hcW := hW.at; (try dsimp only at hcW); go_simp; first | done | with_reducible rfl)); try simp only [Act.put, List.setIfInBounds_toArray, List.set_cons_zero, List.set_cons_succ]) | (refine takeW 29 (v := ?_) rfl (by decide +kernel) (by decide +kernel) (by decide +kernel) (fun _ _ _ h => h) (Or.inl ⟨by rfl, ?_⟩) ?_; rotate_left 1; (focus (intro W hW; go_simp; first | done | with_reducible rfl)); try simp only [Act.put, List.setIfInBounds_toArray, List.set_cons_zero, List.set_cons_succ]) | (refine takeW 29 rfl (by decide +kernel) (by decide +kernel) (by decide +kernel) (fun _ _ _ h => h) (Or.inr ⟨by rfl, rfl⟩) ?_; try simp only [Act.put, List.setIfInBounds_toArray, List.set_cons_zero, List.set_cons_succ]) | skip); (first | (refine takeT 30 (v := ?_) rfl (by decide +kernel) (by decide +kernel) (by decide +kernel) (fun _ _ _ h => h) (by decide +kernel) (Or.inl ⟨by rfl, ?_⟩) ?_; rotate_left 1; (focus (intro W hW; have hcW := hW.at; (try dsimp only at hcW); go_simp; first | done | with_reducible rfl)); try simp only [Act.put, List.setIfInBounds_toArray, List.set_cons_zero, List.set_cons_succ]) | (refine takeW 30 (v := ?_) rfl (by decide +kernel) (by decide +kernel) (by decide +kernel) (fun _ _ _ h => h) (Or.inl ⟨by rfl, ?_⟩) ?_; rotate_left 1; (focus (intro W hW; go_simp; first | done | with_reducible rfl)); try simp only [Act.put, List.setIfInBounds_toArray, List.set_cons_zero, List.set_cons_succ]) | (refine takeW 30 rfl (by decide +kernel) (by decide +kernel) (by decide +kernel) (fun _ _ _ h => h) (Or.inr ⟨by rfl, rfl⟩) ?_; try simp only [Act.put, List.setIfInBounds_toArray, List.set_cons_zero, List.set_cons_succ]) | skip))
        refine doneT (by kernel_rfl) ?_
        have G7 := Lib.hid ((hb.out.block _ (block_lt B7.out)).trans B7.out)
        have G9 := Lib.hid ((hb.out.block _ (block_lt K9.out)).trans K9.out)
        have GP := Lib.hid ((hb.out.block _ (block_lt BP.out)).trans BP.out)
        have RU := Lib.hid (R7.out.below hb.out)
        have RL := Lib.hid (L7.out.below hb.out (by decide))
        have RS := Lib.hid (HS.out.below hb.out (by decide))
        have Hz := Lib.hid (Hwz.out.trans (hb.out.mono Hwz.out.size))
        have Hwy := Lib.hid Hw7.out.size
        have KL := Lib.hid fun (X : World) (hwX : Below w.heap.size w X) => lives_any X (HL.out.belowN hwX hLN) (Nat.lt_of_lt_of_le hLN hwX.size)
        have HwN := Lib.hid (show w.heap.size < N by have := hN2.out; omega)
        clear KDH HD HH HS L7 R7 Ra B7 K9 K10 BN BP T hb Hwz HN1
        have hle : out.length ≤ 9223372036854775807 := Nat.le_trans RU.out.le RU.out.cap
        go_wp2
        go_loopw [11] (fun i W => ∃ (k : Nat) (ys : List UInt8), k ≤ out.length ∧ i = .int .i64 k ∧ ys.length = out.length ∧ RdU (fun k => ((N < k ∧ ¬ F k) ∧ k ≠ g7) ∧ k < y.heap.size) W A1 c1 ys ∧ Mv (fun k => ((N < k ∧ ¬ F k) ∧ k ≠ g7) ∧ k < y.heap.size) x3 (fun k => ((N < k ∧ ¬ F k) ∧ k ≠ g7) ∧ k < y.heap.size) W) (fun i _ => out.length - (intOf i).toNat)
        case atStart => exact ⟨0, out, by omega, rfl, rfl, RU.out, Mv.refl _ _⟩
        case round =>
          obtain ⟨k, ys, hk, rfl, hyl, hru, hm⟩ := hrel
          have W7 := (hm.keep g7 (block_lt G7.out) (fun h => h.1.2 rfl)).trans G7.out
          have c7 := block_at W7 (i := 1) (v := .slice A1 out.length c1) rfl
          clear W7
          by_cases hkl : k < out.length
          · obtain ⟨bd, od, hA, hpd, hcell⟩ := hru.rds.cells (by omega)
            obtain ⟨cs, tt, hh⟩ := hru.un (by omega) bd od hA
            have e0 := hcell k (by omega)
            have f0 := block_free hh (od + k)
            have hru2 := Lib.hid (hru.set hA (show k < ys.length by omega) (ys.getD k 0 + 1))
            have hm2 := Lib.hid (hm.setCell (p := ⟨bd, od + k, none⟩) hpd (bv (ys.getD k 0 + 1)))
            subst hA
            have hyl' := Lib.hid hyl
            clear hcell hh hru hm hpd hyl
            generalize ys.getD k 0 = y0 at *
            have hyb := y0.toNat_lt
            have hv1 := Lib.hid (bv_inc' y0)
            go_wp2
            go_roundw
            case rel =>
              refine ⟨k + 1, ys.set k (y0 + 1), by omega, by go_num, by rw [List.length_set]; exact hyl'.out, ?_, ?_⟩
              · rw [hv1.out]; exact hru2.out
              · rw [hv1.out]; exact hm2.out
            case measure => simp [intOf]; omega
          · have hlo : ∀ k, k < w.heap.size → wr.heap[k]? = x3.heap[k]? := fun k hk => hm.keep k (by have := Hz.out.size; omega) (fun h => by have := HwN.out; omega)
            have GP2 := (hm.keep _ (block_lt GP.out) (fun h => by have := HwN.out; omega)).trans GP.out
            have G92 := (hm.keep _ (block_lt G9.out) (fun h => by have := Hg9.out; omega)).trans G9.out
            have hwz := Hz.out.size
            have hwr : Below w.heap.size w wr := ⟨hm.os.trans Hz.out.os, hm.tape.trans Hz.out.tape, hm.output.trans Hz.out.output, Nat.le_trans hwz hm.size, fun k hk => (hlo k hk).trans (Hz.out.block k hk)⟩
            have hcv : (convert 22 9 (.slice A t.data.length c)).run Tryd.prog wr = .ok (.string ⟨t.data.toArray⟩) wr := (Hr.out.keep (w' := wr) fun k hk => hwr.block k hk).rdT.str Tryd.underlying22 Tryd.underlying5 Tryd.underlying9
            obtain ⟨_, _, _, _, _, _, c6⟩ := tr_cells GP2
            have d3 := block_at G92 (i := 3) (v := .slice B3 x6.sent.length e3) rfl
            have RL2 := Lib.hid ((RL.out.lt (by decide)).keep (w' := wr) fun k hk => hm.keep k hk.2 (fun h => h.1.1.2 hk.1))
            have RS2 := Lib.hid ((RS.out.lt (by decide)).keep (w' := wr) fun k hk => hm.keep k hk.2 (fun h => hk.1.elim (fun h1 => by have := HwN.out; omega) (fun h1 => by omega)))
            have Hwr := Lib.hid hwr
            clear hlo GP2 G92 hwz hwr hru hm hyl
            go_wp2_with fail
            refine (KDS.out wr (RL2.out.mono fun k hk => hk.1) (RS2.out.mono fun k hk => hk.1)).mono ?_
            rintro e x4 ⟨rfl, bb⟩
            have H4 := Lib.hid (Hwr.out.trans (bb.mono Hwr.out.size))
            clear bb c6 d3 hcv c7
            go_wp2_with fail
            refine (KL.out x4 H4.out).mono ?_
            rintro e x5 ⟨rfl, bb⟩
            have H5 := Lib.hid (H4.out.trans (bb.mono H4.out.size))
            clear bb
            go_wp2
            go_ret
            exact ⟨rfl, H5.out⟩

theorem lawDo_all (w : World) (hL : Laid w) (hLN : 0 < w.heap.size) (t : Tr) (h0 : t.addr < 256) (h1 : t.endp < 256) (h2 : t.what < 256) (h3 : -9223372036854775808 ≤ t.max) (h4 : t.max ≤ 9223372036854775807) (A : Option Addr) (c : Nat) (hr : Rd w w.heap.size A c t.data) (A' B : Option Addr) (c' cb : Nat) (l : List Pkt) (xs : List UInt8)
    (hla : RdL layPk (fun k => k < w.heap.size) w A' c' l) (hin : ∀ a ∈ l, a.In) (hx : Rd w w.heap.size B cb xs) :
    Calls Tryd.prog 6 #[trV t A c, .agg #[.slice A' l.length c', .slice B xs.length cb]] w (ResB w true) := by
  by_cases hd : (1100 : Int) < (t.data.length : Int)
  · exact lawDo_long w t A c A' B c' l.length xs.length cb hd
  · exact lawDo_any w hL hLN t ⟨h0, h1, h2, h3, h4, by omega⟩ A c hr A' B c' cb l xs hla hin hx hd

end Go.Proofs.YtkfkcpogcobmbaaDoor
