/-
  Helper text: the walk of the law TransactionsSpeak; no statement is proved here.
-/
import Derived.Test.YtkfkcpogcobmbaaDoorSpkP
import Derived.Test.YtkfkcpogcobmbaaDoorScE
import Derived.Test.YtkfkcpogcobmbaaDoorSml
import Derived.Test.YtkfkcpogcobmbaaDoorSam
import Derived.Test.YtkfkcpogcobmbaaDoorRsp
import Derived.Test.YtkfkcpogcobmbaaDoorRowZ
import Derived.Test.YtkfkcpogcobmbaaDoorLives
namespace Go.Proofs.YtkfkcpogcobmbaaDoor
open Go Go.RowKit

theorem flatD : Flat Tryd.prog 62 2 := ⟨_, Tryd.underlying62, by kernel_rfl⟩
theorem spk_same (x : Rw) (hx : x.sent = []) (p : Pkt) : spkR lineN (askR hearS lineN) (x.ans, x.heard) x.flt p = ((speakW x p).1.host, (speakW x p).2) := by
  obtain ⟨al, fs, hd, sn⟩ := x
  subst hx
  unfold spkR
  by_cases h : p.err = 0
  · rw [if_pos h]; exact speak_same ⟨al, fs, hd, []⟩ p h
  · rw [if_neg h]; unfold speakW; rw [if_neg h]; rfl
theorem smBlk5 {w W : World} {b1 b2 b3 b4 b5 : Nat} (hb : Below w.heap.size w W) (h1 : b1 < w.heap.size) (h2 : b2 < w.heap.size) (h3 : b3 < w.heap.size) (h4 : b4 < w.heap.size) (h5 : b5 < w.heap.size) :
    Sm (fun a => a.block = b1 ∨ a.block = b2 ∨ a.block = b3 ∨ a.block = b4 ∨ a.block = b5) w W := fun a ha => hb.cell (by rcases ha with h | h | h | h | h <;> omega)
theorem speakW_len (x : Rw) (p : Pkt) : (speakW x p).1.sent.length ≤ x.sent.length + 2 ∧ (speakW x p).1.heard.length ≤ x.heard.length + 1 := by
  unfold speakW arrR
  repeat' split
  all_goals (simp; try omega)
set_option maxHeartbeats 3200000 in
set_option maxRecDepth 100000 in
theorem lawSpeak_long (w : World) (p : Pkt) (A : Option Addr) (c : Nat) (A' B : Option Addr) (c' n m cb : Nat) (hl : (1100 : Int) < (p.data.length : Int)) :
    Calls Tryd.prog 5 #[pkV p A c, .agg #[.slice A' n c', .slice B m cb]] w (ResB w true) := by
  obtain ⟨g0, g1, _, g3⟩ := alloc2 w (pkB p A c) (.cells #[.slice A' n c', .slice B m cb] 62)
  have c9 := block_at g0 (i := 9) (v := .slice A p.data.length c) rfl
  have Hb := Lib.hid g3
  clear g0 g1 g3
  go_enter Tryd.func5, Tryd.ntmps5
  go_wp2
  go_ret
  exact ⟨rfl, Hb.out⟩

set_option maxHeartbeats 6400000 in
set_option maxRecDepth 100000 in
theorem lawSpeak_any (w : World) (hL : Laid w) (hLN : 0 < w.heap.size) (p : Pkt) (pin : p.In) (A : Option Addr) (c : Nat) (hr : Rd w w.heap.size A c p.data) (A' B : Option Addr) (c' cb : Nat) (l : List Pkt) (xs : List UInt8)
    (hla : RdL layPk (fun k => k < w.heap.size) w A' c' l) (hin : ∀ a ∈ l, a.In) (hx : Rd w w.heap.size B cb xs) (hd : ¬ (1100 : Int) < (p.data.length : Int)) :
    Calls Tryd.prog 5 #[pkV p A c, .agg #[.slice A' l.length c', .slice B xs.length cb]] w (ResB w true) := by
  obtain ⟨g0, g1, g2, g3⟩ := alloc2 w (pkB p A c) (.cells #[.slice A' l.length c', .slice B xs.length cb] 62)
  have c9 := block_at g0 (i := 9) (v := .slice A p.data.length c) rfl
  have hok := pin.ok (by omega)
  have Hb := Lib.hid g3
  have B0 := Lib.hid g0
  have B1 := Lib.hid g1
  have Hr := Lib.hid hr.rdS
  have Hla := Lib.hid hla
  have Hx := Lib.hid hx.rdS
  have HL := Lib.hid hL
  have Hin := Lib.hid hin
  have KS := Lib.hid (small_any _ A' B c' cb xs.length l _ (hla.keep fun k hk => g3.block k hk))
  clear g0 g1 g2 g3 hr hla hx hL hin pin
  go_enter Tryd.func5, Tryd.ntmps5
  have e0 := block_at B1.out (i := 0) (v := .slice A' l.length c') rfl
  have e1 := block_at B1.out (i := 1) (v := .slice B xs.length cb) rfl
  go_wp2_with fail
  refine KS.out.mono ?_
  rintro e y1 ⟨sm, ⟨rfl, bb1⟩, hsm⟩
  clear e0 e1 c9 KS
  cases sm
  · have Hy := Lib.hid (Hb.out.trans (bb1.mono Hb.out.size))
    clear bb1
    go_wp2
    go_ret
    exact ⟨rfl, Hy.out⟩
  · have hsp := hsm rfl
    have hb1 := Hb.out.trans (bb1.mono Hb.out.size)
    have B01 := Lib.hid ((bb1.block _ (block_lt B0.out)).trans B0.out)
    have B11 := Lib.hid ((bb1.block _ (block_lt B1.out)).trans B1.out)
    have c9 := block_at B01.out (i := 9) (v := .slice A p.data.length c) rfl
    have e0 := block_at B11.out (i := 0) (v := .slice A' l.length c') rfl
    have e1 := block_at B11.out (i := 1) (v := .slice B xs.length cb) rfl
    have hr1 := Hr.out.keep (w' := y1) fun k hk => hb1.block k hk
    have hcv : (convert 22 9 (.slice A p.data.length c)).run Tryd.prog y1 = .ok (.string ⟨p.data.toArray⟩) y1 := hr1.rdT.str Tryd.underlying22 Tryd.underlying5 Tryd.underlying9
    have Ham : ∀ a ∈ l, a.Ok := fun a ha => by
      obtain ⟨i, hi, rfl⟩ := List.mem_iff_getElem.1 ha
      exact (Hin.out _ ha).ok (by have := hsp.2.2 i hi; omega)
    have hxl : xs.length ≤ 100000 := by have := hsp.2.1; omega
    obtain ⟨fs, hfs⟩ : ∃ fs, xs.map m3 = fs := ⟨_, rfl⟩
    have hfl : fs.length = xs.length := by rw [← hfs]; simp
    obtain ⟨⟨x6, a, o⟩, h6⟩ : ∃ r, speakW ⟨l, fs, [], []⟩ p = r := ⟨_, rfl⟩
    have hlen := speakW_len ⟨l, fs, [], []⟩ p
    rw [h6] at hlen
    have hR : spkR lineN (askR hearS lineN) (l, []) fs p = (x6.host, a, o) := by
      have := spk_same ⟨l, fs, [], []⟩ rfl p
      rw [h6] at this
      exact this
    have hN2 := block_lt B11.out
    have ha2 := (Below.refl y1.heap.size y1).alloc (Nat.le_refl _) (.cells #[.slice A' l.length c', .slice none 0 0] 53)
    have hs2 : (y1.alloc (.cells #[.slice A' l.length c', .slice none 0 0] 53)).heap.size = y1.heap.size + 1 := by simp
    have k2 := alloc1 y1 (.cells #[.slice A' l.length c', .slice none 0 0] 53)
    have hS2 : (scA y1.heap.size y1.heap.size (l, [])).holds (fun k => k = y1.heap.size) (y1.alloc (.cells #[.slice A' l.length c', .slice none 0 0] 53)) := by
      refine ⟨Ham, ⟨A', c', _, k2, (Hla.out.keep (w' := y1.alloc _) fun k hk => ?_).mono fun k hk => ?_, OwnL.nil _ _ _⟩, rfl, fun k hk => by subst hk; omega⟩
      · exact (ha2.block k (by have := hb1.size; omega)).trans (hb1.block k hk)
      · have := hb1.size; omega
    have KW := Lib.hid fun (X : World) (hb : Below (y1.alloc (.cells #[.slice A' l.length c', .slice none 0 0] 53)).heap.size (y1.alloc (.cells #[.slice A' l.length c', .slice none 0 0] 53)) X) => show Calls Tryd.prog 16 #[.slice B xs.length cb] X (LinePost X fs) from hfs ▸ wire_any X B cb xs ((Hx.out.keep (w' := X) fun k hk => ((hb.block k (by rw [hs2]; have := hb1.size; omega)).trans (ha2.block k (by have := hb1.size; omega))).trans (hb1.block k hk)).rdT) hxl
    have KSP := Lib.hid fun (X : World) (b' : Nat) (G : Nat → Prop) (hG : (lineA y1.heap.size b' fs).holds G X) (hge : ∀ k, G k → y1.heap.size < k) (hb : Below (y1.alloc (.cells #[.slice A' l.length c', .slice none 0 0] 53)).heap.size (y1.alloc (.cells #[.slice A' l.length c', .slice none 0 0] 53)) X) (hNX : y1.heap.size ≤ X.heap.size) => 
      show Calls Tryd.prog 19 #[.iface 50 (.pointer (some ⟨y1.heap.size, 0, none⟩)), .iface 26 (.pointer (some ⟨b', 0, none⟩)), pkV p A c] X (SpkPost ((scA y1.heap.size y1.heap.size (x6.ans, x6.heard)).sep (lineA y1.heap.size b' x6.flt)) (fun k => k = y1.heap.size ∨ G k) X (a, o) x6.sent) from by
        have hwX : Below w.heap.size w X := (hb1.trans (ha2.mono hb1.size)).trans (hb.mono (by rw [hs2]; have := hb1.size; omega))
        have h0 : ((scA y1.heap.size y1.heap.size (l, [])).sep (lineA y1.heap.size b' fs)).holds (fun k => k = y1.heap.size ∨ G k) X := ⟨fun k => k = y1.heap.size, G, (scA _ _ _).loc hS2 hb.size fun k hk => hb.block k (by rw [hs2]; omega), hG, fun k hk hg => by have := hge k hg; omega, fun _ => Iff.rfl⟩
        have := spkP_any (D := scA y1.heap.size y1.heap.size) (W := lineA y1.heap.size b') (.inr ⟨_, _, rfl⟩) (.inr ⟨_, _, rfl⟩) (fault_line _ _) (fun bb => sc_askC (fault_line _ _) bb (by have := hb1.size; omega)) (by have := hb1.size; omega) X (l, []) (show 0 ≤ 0 from Nat.le_refl _) fs _ h0 p hok A c ((Hr.out.keep (w' := X) fun k hk => hwX.block k hk).mono fun k hk hf => by have := hb1.size; exact hf.elim (fun e => by omega) (fun h => by have := hge k h; omega)) hNX (HL.out.belowN hwX hLN)
        rw [hR] at this
        exact this
    have Hb1 := Lib.hid hb1
    have Hlen := Lib.hid hlen
    have Hsp := Lib.hid hsp
    have Ham := Lib.hid Ham
    have Hok := Lib.hid hok
    have H6 := Lib.hid h6
    have Hfl := Lib.hid hfl
    have Hxl := Lib.hid hxl
    have Hfs := Lib.hid hfs
    have Ha2 := Lib.hid ha2
    have hsz := Lib.hid hs2
    have hN2 := Lib.hid hN2
    clear bb1 hsm hsp hb1 hr1 hlen h6 hR hfl hxl hfs hok ha2 hs2 hS2 k2 hd
    go_wp2
    generalize y1.alloc (.cells #[.slice A' l.length c', .slice none 0 0] 53) = y2 at KW KSP Ha2 hsz ⊢
    obtain ⟨N, hN⟩ : ∃ N, y1.heap.size = N := ⟨_, rfl⟩
    rw [hN] at KSP Ha2 hsz hN2 ⊢
    obtain ⟨s', hs'⟩ : ∃ s', (x6.ans, x6.heard) = s' := ⟨_, rfl⟩
    rw [hs'] at KSP
    have KS := KSP
    have HN1 := Lib.hid hN
    have Hs' := Lib.hid hs'
    clear KSP hN hs' c9 e0 e1 hcv
    refine region_inv (fun a₀ act y => ∃ (g7 : Nat) (A1 : Option Addr) (c1 : Nat) (A2 : Option Addr) (c2 : Nat) (FD : Nat → Prop) (v31 v32 v33 v34 v35 v36 v37 v38 v39 v40 v41 v42 : Value),
      act = { tmps := #[pkV p A c, .agg #[.slice A' l.length c', .slice B xs.length cb], .pointer (some ⟨w.heap.size, 0, none⟩), .pointer (some ⟨w.heap.size + 1, 0, none⟩), .bool false, .string ⟨p.data.toArray⟩, .pointer (some ⟨N, 0, none⟩), .pointer (some ⟨g7, 0, none⟩), .bool o, .slice A2 x6.sent.length c2, undef, undef, undef, undef, undef,
        .pointer (some ⟨w.heap.size, 9, none⟩), .slice A p.data.length c, .int .i64 p.data.length, .bool false, .bool false, .agg #[.slice A' l.length c', .slice B xs.length cb], .bool true, .bool false, .bool false, .pointer (some ⟨w.heap.size, 9, none⟩), .slice A p.data.length c, .string ⟨p.data.toArray⟩, .pointer (some ⟨w.heap.size + 1, 0, none⟩), .slice A' l.length c', .agg #[.slice A' l.length c', .slice none 0 0], .pointer (some ⟨N, 0, none⟩), v31, v32, v33, v34, v35, v36, v37, v38, v39, v40, v41, v42, undef, undef, undef, undef, undef, undef, undef, undef, undef, undef, undef, undef, undef, undef, undef, undef, undef, undef, undef, undef, undef, undef, undef, undef, undef, undef, undef, undef, undef, undef, undef, undef, undef, undef, undef, undef, undef, undef, undef, undef, undef, undef, undef, undef, undef, undef, undef, undef, undef, undef, undef, undef, undef, undef, undef, undef, undef, undef, undef, undef, undef, undef, undef, undef, undef, undef, undef, undef, undef, undef], defers := [] } ∧
      y.heap[g7]? = some (pkB a A1 c1) ∧ RdS (fun _ => True) y A1 c1 a.data ∧ RdL laySn (fun _ => True) y A2 c2 x6.sent ∧ (scA N N s').holds FD y ∧ Below N y2 y ∧ N < y.heap.size) ?_ ?_
    · have b0 := block_at B01.out (i := 9) rfl
      refine startTP (S := fun a => a.block = w.heap.size ∨ a.block = w.heap.size + 1) (T := [13]) (fun X => Below y2.heap.size y2 X) 16 (by kernel_rfl) rfl (l := #[false, false, false, false, false, false, false, false, false, false, false, false, false, false, false, false]) rfl (Below.refl _ _).drew ?_
      rintro x0 hb
      have hk : ∀ k, k < N → x0.heap[k]? = y1.heap[k]? := fun k hk => (hb.block k (by have := hsz.out; omega)).trans (Ha2.out.block k hk)
      have d1 := range_of ((hk _ (by have := hN2.out; omega)).trans B01.out)
      have d2 := block_at ((hk _ hN2.out).trans B11.out) (i := 1) (v := .slice B xs.length cb) rfl
      replace hb := Lib.hid hb
      have hNX := Lib.hid (show N ≤ x0.heap.size by have := hb.out.size; have := hsz.out; omega)
      clear hk b0
      ((first | (refine takeT 0 (v := ?_) rfl (by decide +kernel) (by decide +kernel) (by decide +kernel) (fun _ _ _ h => h) (by decide +kernel) (Or.inl ⟨by rfl, ?_⟩) ?_; rotate_left 1; (focus (intro W hW; have hcW := hW.at; (try dsimp only at hcW); go_simp; first | done | with_reducible rfl)); try simp only [Act.put, List.setIfInBounds_toArray, List.set_cons_zero, List.set_cons_succ]) | (refine takeW 0 (v := ?_) rfl (by decide +kernel) (by decide +kernel) (by decide +kernel) (fun _ _ _ h => h) (Or.inl ⟨by rfl, ?_⟩) ?_; rotate_left 1; (focus (intro W hW; go_simp; first | done | with_reducible rfl)); try simp only [Act.put, List.setIfInBounds_toArray, List.set_cons_zero, List.set_cons_succ]) | (refine takeW 0 rfl (by decide +kernel) (by decide +kernel) (by decide +kernel) (fun _ _ _ h => h) (Or.inr ⟨by rfl, rfl⟩) ?_; try simp only [Act.put, List.setIfInBounds_toArray, List.set_cons_zero, List.set_cons_succ]) | skip); (first | (refine takeT 1 (v := ?_) rfl (by decide +kernel) (by decide +kernel) (by decide +kernel) (fun _ _ _ h => h) (by decide +kernel) (Or.inl ⟨by rfl, ?_⟩) ?_; rotate_left 1; (focus (intro W hW; have hcW := hW.at; (try dsimp only at hcW); go_simp; first | done | with_reducible rfl)); try simp only [Act.put, List.setIfInBounds_toArray, List.set_cons_zero, List.set_cons_succ]) | (refine takeW 1 (v := ?_) rfl (by decide +kernel) (by decide +kernel) (by decide +kernel) (fun _ _ _ h => h) (Or.inl ⟨by rfl, ?_⟩) ?_; rotate_left 1; (focus (intro W hW; go_simp; first | done | with_reducible rfl)); try simp only [Act.put, List.setIfInBounds_toArray, List.set_cons_zero, List.set_cons_succ]) | (refine takeW 1 rfl (by decide +kernel) (by decide +kernel) (by decide +kernel) (fun _ _ _ h => h) (Or.inr ⟨by rfl, rfl⟩) ?_; try simp only [Act.put, List.setIfInBounds_toArray, List.set_cons_zero, List.set_cons_succ]) | skip); (first | (refine takeT 2 (v := ?_) rfl (by decide +kernel) (by decide +kernel) (by decide +kernel) (fun _ _ _ h => h) (by decide +kernel) (Or.inl ⟨by rfl, ?_⟩) ?_; rotate_left 1; (focus (intro W hW; have hcW := hW.at; (try dsimp only at hcW); go_simp; first | done | with_reducible rfl)); try simp only [Act.put, List.setIfInBounds_toArray, List.set_cons_zero, List.set_cons_succ]) | (refine takeW 2 (v := ?_) rfl (by decide +kernel) (by decide +kernel) (by decide +kernel) (fun _ _ _ h => h) (Or.inl ⟨by rfl, ?_⟩) ?_; rotate_left 1; (focus (intro W hW; go_simp; first | done | with_reducible rfl)); try simp only [Act.put, List.setIfInBounds_toArray, List.set_cons_zero, List.set_cons_succ]) | (refine takeW 2 rfl (by decide +kernel) (by decide +kernel) (by decide +kernel) (fun _ _ _ h => h) (Or.inr ⟨by rfl, rfl⟩) ?_; try simp only [Act.put, List.setIfInBounds_toArray, List.set_cons_zero, List.set_cons_succ]) | skip); (first | (refine takeT 3 (v := ?_) rfl (by decide +kernel) (by decide +kernel) (by decide +kernel) (fun _ _ _ h => h) (by decide +kernel) (Or.inl ⟨by rfl, ?_⟩) ?_; rotate_left 1; (focus (intro W hW; have hcW := hW.at; (try dsimp only at hcW); go_simp; first | done | with_reducible rfl)); try simp only [Act.put, List.setIfInBounds_toArray, List.set_cons_zero, List.set_cons_succ]) | (refine takeW 3 (v := ?_) rfl (by decide +kernel) (by decide +kernel) (by decide +kernel) (fun _ _ _ h => h) (Or.inl ⟨by rfl, ?_⟩) ?_; rotate_left 1; (focus (intro W hW; go_simp; first | done | with_reducible rfl)); try simp only [Act.put, List.setIfInBounds_toArray, List.set_cons_zero, List.set_cons_succ]) | (refine takeW 3 rfl (by decide +kernel) (by decide +kernel) (by decide +kernel) (fun _ _ _ h => h) (Or.inr ⟨by rfl, rfl⟩) ?_; try simp only [Act.put, List.setIfInBounds_toArray, List.set_cons_zero, List.set_cons_succ]) | skip))
      clear d2
      refine takeT 6 (v := pkV p A c) rfl (by decide +kernel) (by decide +kernel) (by decide +kernel) (fun _ _ _ h => h) (by decide +kernel) (yieldsIf_load_mid (by rfl) _ (.tmp 2) rfl w.heap.size 0 rfl (pkL p A c) _ (fun W hW => range_sm hW (fun j => .inl rfl) d1) Tryd.underlying40 rfl (by kernel_rfl)) ?_
      try simp only [Act.put, List.setIfInBounds_toArray, List.set_cons_zero, List.set_cons_succ]
      clear d1
      refine stepTA [4, 12] (by decide +kernel) (by decide) ?_
      intro i hi
      rcases (by simpa using hi : i = 4 ∨ i = 12) with rfl | rfl
      · clear hi
        refine ⟨_, rfl, by rfl, ?_⟩
        intro K hK
        go_simp
        refine (KW.out x0 hb.out).mono ?_
        rintro e u35 ⟨b', G, rfl, hG, bb⟩
        have sm := smBlk (b1 := w.heap.size) (b2 := w.heap.size + 1) bb (by have := hb.out.size; have := hsz.out; have := hN2.out; omega) (by have := hb.out.size; have := hsz.out; have := hN2.out; omega)
        have hge := Lib.hid (show ∀ k, G k → N < k from fun k hk => by have := (hG.2.2 k hk).1; have := hb.out.size; have := hsz.out; omega)
        replace hb := Lib.hid (hb.out.trans (bb.mono hb.out.size))
        replace hG := Lib.hid (lineA_base (N := N) hG hNX.out)
        replace hNX := Lib.hid (Nat.le_trans hNX.out bb.size)
        refine hK _ _ (.inr sm) ?_
        clear hK K sm bb
        try simp only [Act.put, List.setIfInBounds_toArray, List.set_cons_zero, List.set_cons_succ]
        ((first | (refine takeT 5 (v := ?_) rfl (by decide +kernel) (by decide +kernel) (by decide +kernel) (fun _ _ _ h => h) (by decide +kernel) (Or.inl ⟨by rfl, ?_⟩) ?_; rotate_left 1; (focus (intro W hW; have hcW := hW.at; (try dsimp only at hcW); go_simp; first | done | with_reducible rfl)); try simp only [Act.put, List.setIfInBounds_toArray, List.set_cons_zero, List.set_cons_succ]) | (refine takeW 5 (v := ?_) rfl (by decide +kernel) (by decide +kernel) (by decide +kernel) (fun _ _ _ h => h) (Or.inl ⟨by rfl, ?_⟩) ?_; rotate_left 1; (focus (intro W hW; go_simp; first | done | with_reducible rfl)); try simp only [Act.put, List.setIfInBounds_toArray, List.set_cons_zero, List.set_cons_succ]) | (refine takeW 5 rfl (by decide +kernel) (by decide +kernel) (by decide +kernel) (fun _ _ _ h => h) (Or.inr ⟨by rfl, rfl⟩) ?_; try simp only [Act.put, List.setIfInBounds_toArray, List.set_cons_zero, List.set_cons_succ]) | skip))
        refine stepTA [7, 12] (by decide +kernel) (by decide) ?_
        intro i hi
        rcases (by simpa using hi : i = 7 ∨ i = 12) with rfl | rfl
        · clear hi
          refine ⟨_, rfl, by rfl, ?_⟩
          intro K hK
          go_simp
          have hb0 := hb
          refine (KS.out u35 b' G hG.out hge.out hb.out hNX.out).mono ?_
          rintro e u36 ⟨A1, c1, A2, c2, S1, F, rfl, hr, hl, hF, hd, hm, hFn⟩
          have sm : Sm (fun a => a.block = w.heap.size ∨ a.block = w.heap.size + 1) u35 u36 := fun a ha => World.cell?_of_block (hm.keep _ (by have := hb.out.size; have := hsz.out; have := hN2.out; rcases ha with h | h <;> omega) (fun hs => hs.elim (fun e => by have := hN2.out; rcases ha with h | h <;> omega) (fun hf => by have := hge.out _ hf; have := hN2.out; rcases ha with h | h <;> omega)))
          obtain ⟨FD, FW, hd, _, _, hS1⟩ := hd
          replace hr := Lib.hid (hr.lt.mono (G := fun k => k < u36.heap.size) fun k hk => hk.2)
          replace hl := Lib.hid (hl.mono (G := fun k => k < u36.heap.size) fun k hk => (hF k hk).2.2)
          replace hb := Lib.hid ((hb.out.mono (by have := hsz.out; omega)).trans (hm.belowN (N := N) (fun k hk => hk.elim (fun e => Nat.le_of_eq e.symm) (fun h => Nat.le_of_lt (hge.out k h))) hNX.out))
          replace hNX := Lib.hid (show N < u36.heap.size from Nat.lt_of_lt_of_le (by have := hb0.out.size; have := hsz.out; omega) hm.size)
          replace hd := Lib.hid hd
          refine hK _ _ (.inr sm) ?_
          clear hK K sm hm hF hFn hS1 hG hge
          try simp only [Act.put, List.setIfInBounds_toArray, List.set_cons_zero, List.set_cons_succ]
          clear hb0
          ((first | (refine takeT 8 (v := ?_) rfl (by decide +kernel) (by decide +kernel) (by decide +kernel) (fun _ _ _ h => h) (by decide +kernel) (Or.inl ⟨by rfl, ?_⟩) ?_; rotate_left 1; (focus (intro W hW; have hcW := hW.at; (try dsimp only at hcW); go_simp; first | done | with_reducible rfl)); try simp only [Act.put, List.setIfInBounds_toArray, List.set_cons_zero, List.set_cons_succ]) | (refine takeW 8 (v := ?_) rfl (by decide +kernel) (by decide +kernel) (by decide +kernel) (fun _ _ _ h => h) (Or.inl ⟨by rfl, ?_⟩) ?_; rotate_left 1; (focus (intro W hW; go_simp; first | done | with_reducible rfl)); try simp only [Act.put, List.setIfInBounds_toArray, List.set_cons_zero, List.set_cons_succ]) | (refine takeW 8 rfl (by decide +kernel) (by decide +kernel) (by decide +kernel) (fun _ _ _ h => h) (Or.inr ⟨by rfl, rfl⟩) ?_; try simp only [Act.put, List.setIfInBounds_toArray, List.set_cons_zero, List.set_cons_succ]) | skip); (first | (refine takeT 9 (v := ?_) rfl (by decide +kernel) (by decide +kernel) (by decide +kernel) (fun _ _ _ h => h) (by decide +kernel) (Or.inl ⟨by rfl, ?_⟩) ?_; rotate_left 1; (focus (intro W hW; have hcW := hW.at; (try dsimp only at hcW); go_simp; first | done | with_reducible rfl)); try simp only [Act.put, List.setIfInBounds_toArray, List.set_cons_zero, List.set_cons_succ]) | (refine takeW 9 (v := ?_) rfl (by decide +kernel) (by decide +kernel) (by decide +kernel) (fun _ _ _ h => h) (Or.inl ⟨by rfl, ?_⟩) ?_; rotate_left 1; (focus (intro W hW; go_simp; first | done | with_reducible rfl)); try simp only [Act.put, List.setIfInBounds_toArray, List.set_cons_zero, List.set_cons_succ]) | (refine takeW 9 rfl (by decide +kernel) (by decide +kernel) (by decide +kernel) (fun _ _ _ h => h) (Or.inr ⟨by rfl, rfl⟩) ?_; try simp only [Act.put, List.setIfInBounds_toArray, List.set_cons_zero, List.set_cons_succ]) | skip); (first | (refine takeT 10 (v := ?_) rfl (by decide +kernel) (by decide +kernel) (by decide +kernel) (fun _ _ _ h => h) (by decide +kernel) (Or.inl ⟨by rfl, ?_⟩) ?_; rotate_left 1; (focus (intro W hW; have hcW := hW.at; (try dsimp only at hcW); go_simp; first | done | with_reducible rfl)); try simp only [Act.put, List.setIfInBounds_toArray, List.set_cons_zero, List.set_cons_succ]) | (refine takeW 10 (v := ?_) rfl (by decide +kernel) (by decide +kernel) (by decide +kernel) (fun _ _ _ h => h) (Or.inl ⟨by rfl, ?_⟩) ?_; rotate_left 1; (focus (intro W hW; go_simp; first | done | with_reducible rfl)); try simp only [Act.put, List.setIfInBounds_toArray, List.set_cons_zero, List.set_cons_succ]) | (refine takeW 10 rfl (by decide +kernel) (by decide +kernel) (by decide +kernel) (fun _ _ _ h => h) (Or.inr ⟨by rfl, rfl⟩) ?_; try simp only [Act.put, List.setIfInBounds_toArray, List.set_cons_zero, List.set_cons_succ]) | skip); (first | (refine takeT 11 (v := ?_) rfl (by decide +kernel) (by decide +kernel) (by decide +kernel) (fun _ _ _ h => h) (by decide +kernel) (Or.inl ⟨by rfl, ?_⟩) ?_; rotate_left 1; (focus (intro W hW; have hcW := hW.at; (try dsimp only at hcW); go_simp; first | done | with_reducible rfl)); try simp only [Act.put, List.setIfInBounds_toArray, List.set_cons_zero, List.set_cons_succ]) | (refine takeW 11 (v := ?_) rfl (by decide +kernel) (by decide +kernel) (by decide +kernel) (fun _ _ _ h => h) (Or.inl ⟨by rfl, ?_⟩) ?_; rotate_left 1; (focus (intro W hW; go_simp; first | done | with_reducible rfl)); try simp only [Act.put, List.setIfInBounds_toArray, List.set_cons_zero, List.set_cons_succ]) | (refine takeW 11 rfl (by decide +kernel) (by decide +kernel) (by decide +kernel) (fun _ _ _ h => h) (Or.inr ⟨by rfl, rfl⟩) ?_; try simp only [Act.put, List.setIfInBounds_toArray, List.set_cons_zero, List.set_cons_succ]) | skip))
          refine stepTA [12] (by decide +kernel) (by decide) ?_
          intro i hi
          obtain rfl : i = 12 := by simpa using hi
          clear hi
          refine ⟨_, rfl, by rfl, ?_⟩
          intro K hK
          go_simp
          have bb := (Below.refl u36.heap.size u36).alloc (Nat.le_refl _) pkZ
          have sm := smBlk (b1 := w.heap.size) (b2 := w.heap.size + 1) bb (by have := hNX.out; have := hN2.out; omega) (by have := hNX.out; have := hN2.out; omega)
          have b7 := Lib.hid (alloc1 u36 pkZ)
          have q7 := Lib.hid (show N < u36.heap.size from hNX.out)
          replace hr := Lib.hid ((hr.out.below bb).mono (G := fun k => k ≠ u36.heap.size) fun k hk => by omega)
          replace hl := Lib.hid ((hl.out.below bb (by decide)).mono (G := fun k => k ≠ u36.heap.size) fun k hk => by omega)
          have nF := Lib.hid (show ¬ FD u36.heap.size from fun hf => by have := ((scA N N s').ge hd.out _ hf).2; omega)
          replace hd := Lib.hid (Asr.below hd.out bb (Nat.le_of_lt hNX.out))
          replace hb := Lib.hid (hb.out.trans (bb.mono (Nat.le_of_lt hNX.out)))
          replace hNX := Lib.hid (Nat.lt_of_lt_of_le hNX.out bb.size)
          refine hK _ _ (.inr sm) ?_
          clear hK K sm bb
          try simp only [Act.put, List.setIfInBounds_toArray, List.set_cons_zero, List.set_cons_succ]
          generalize u36.alloc pkZ = u37 at b7 q7 hNX hb hr hl nF hd ⊢
          generalize u36.heap.size = g7 at b7 q7 hNX hb hr hl nF hd ⊢
          ((first | (refine takeT 8 (v := ?_) rfl (by decide +kernel) (by decide +kernel) (by decide +kernel) (fun _ _ _ h => h) (by decide +kernel) (Or.inl ⟨by rfl, ?_⟩) ?_; rotate_left 1; (focus (intro W hW; have hcW := hW.at; (try dsimp only at hcW); go_simp; first | done | with_reducible rfl)); try simp only [Act.put, List.setIfInBounds_toArray, List.set_cons_zero, List.set_cons_succ]) | (refine takeW 8 (v := ?_) rfl (by decide +kernel) (by decide +kernel) (by decide +kernel) (fun _ _ _ h => h) (Or.inl ⟨by rfl, ?_⟩) ?_; rotate_left 1; (focus (intro W hW; go_simp; first | done | with_reducible rfl)); try simp only [Act.put, List.setIfInBounds_toArray, List.set_cons_zero, List.set_cons_succ]) | (refine takeW 8 rfl (by decide +kernel) (by decide +kernel) (by decide +kernel) (fun _ _ _ h => h) (Or.inr ⟨by rfl, rfl⟩) ?_; try simp only [Act.put, List.setIfInBounds_toArray, List.set_cons_zero, List.set_cons_succ]) | skip); (first | (refine takeT 9 (v := ?_) rfl (by decide +kernel) (by decide +kernel) (by decide +kernel) (fun _ _ _ h => h) (by decide +kernel) (Or.inl ⟨by rfl, ?_⟩) ?_; rotate_left 1; (focus (intro W hW; have hcW := hW.at; (try dsimp only at hcW); go_simp; first | done | with_reducible rfl)); try simp only [Act.put, List.setIfInBounds_toArray, List.set_cons_zero, List.set_cons_succ]) | (refine takeW 9 (v := ?_) rfl (by decide +kernel) (by decide +kernel) (by decide +kernel) (fun _ _ _ h => h) (Or.inl ⟨by rfl, ?_⟩) ?_; rotate_left 1; (focus (intro W hW; go_simp; first | done | with_reducible rfl)); try simp only [Act.put, List.setIfInBounds_toArray, List.set_cons_zero, List.set_cons_succ]) | (refine takeW 9 rfl (by decide +kernel) (by decide +kernel) (by decide +kernel) (fun _ _ _ h => h) (Or.inr ⟨by rfl, rfl⟩) ?_; try simp only [Act.put, List.setIfInBounds_toArray, List.set_cons_zero, List.set_cons_succ]) | skip); (first | (refine takeT 10 (v := ?_) rfl (by decide +kernel) (by decide +kernel) (by decide +kernel) (fun _ _ _ h => h) (by decide +kernel) (Or.inl ⟨by rfl, ?_⟩) ?_; rotate_left 1; (focus (intro W hW; have hcW := hW.at; (try dsimp only at hcW); go_simp; first | done | with_reducible rfl)); try simp only [Act.put, List.setIfInBounds_toArray, List.set_cons_zero, List.set_cons_succ]) | (refine takeW 10 (v := ?_) rfl (by decide +kernel) (by decide +kernel) (by decide +kernel) (fun _ _ _ h => h) (Or.inl ⟨by rfl, ?_⟩) ?_; rotate_left 1; (focus (intro W hW; go_simp; first | done | with_reducible rfl)); try simp only [Act.put, List.setIfInBounds_toArray, List.set_cons_zero, List.set_cons_succ]) | (refine takeW 10 rfl (by decide +kernel) (by decide +kernel) (by decide +kernel) (fun _ _ _ h => h) (Or.inr ⟨by rfl, rfl⟩) ?_; try simp only [Act.put, List.setIfInBounds_toArray, List.set_cons_zero, List.set_cons_succ]) | skip); (first | (refine takeT 11 (v := ?_) rfl (by decide +kernel) (by decide +kernel) (by decide +kernel) (fun _ _ _ h => h) (by decide +kernel) (Or.inl ⟨by rfl, ?_⟩) ?_; rotate_left 1; (focus (intro W hW; have hcW := hW.at; (try dsimp only at hcW); go_simp; first | done | with_reducible rfl)); try simp only [Act.put, List.setIfInBounds_toArray, List.set_cons_zero, List.set_cons_succ]) | (refine takeW 11 (v := ?_) rfl (by decide +kernel) (by decide +kernel) (by decide +kernel) (fun _ _ _ h => h) (Or.inl ⟨by rfl, ?_⟩) ?_; rotate_left 1; (focus (intro W hW; go_simp; first | done | with_reducible rfl)); try simp only [Act.put, List.setIfInBounds_toArray, List.set_cons_zero, List.set_cons_succ]) | (refine takeW 11 rfl (by decide +kernel) (by decide +kernel) (by decide +kernel) (fun _ _ _ h => h) (Or.inr ⟨by rfl, rfl⟩) ?_; try simp only [Act.put, List.setIfInBounds_toArray, List.set_cons_zero, List.set_cons_succ]) | skip))
          refine stepT 13 rfl (by decide +kernel) (by rfl) ?_
          intro K hK
          refine wp_storeB flatPk (.tmp 7) (.tmp 40) rfl g7 rfl _ rfl b7.out rfl rfl rfl ?_
          intro y k7 hg7 hs7
          refine hK _ _ (.inl (by decide)) ?_
          clear hK K
          try simp only [Act.put, List.setIfInBounds_toArray, List.set_cons_zero, List.set_cons_succ]
          ((first | (refine takeT 14 (v := ?_) rfl (by decide +kernel) (by decide +kernel) (by decide +kernel) (fun _ _ _ h => h) (by decide +kernel) (Or.inl ⟨by rfl, ?_⟩) ?_; rotate_left 1; (focus (intro W hW; have hcW := hW.at; (try dsimp only at hcW); go_simp; first | done | with_reducible rfl)); try simp only [Act.put, List.setIfInBounds_toArray, List.set_cons_zero, List.set_cons_succ]) | (refine takeW 14 (v := ?_) rfl (by decide +kernel) (by decide +kernel) (by decide +kernel) (fun _ _ _ h => h) (Or.inl ⟨by rfl, ?_⟩) ?_; rotate_left 1; (focus (intro W hW; go_simp; first | done | with_reducible rfl)); try simp only [Act.put, List.setIfInBounds_toArray, List.set_cons_zero, List.set_cons_succ]) | (refine takeW 14 rfl (by decide +kernel) (by decide +kernel) (by decide +kernel) (fun _ _ _ h => h) (Or.inr ⟨by rfl, rfl⟩) ?_; try simp only [Act.put, List.setIfInBounds_toArray, List.set_cons_zero, List.set_cons_succ]) | skip); (first | (refine takeT 15 (v := ?_) rfl (by decide +kernel) (by decide +kernel) (by decide +kernel) (fun _ _ _ h => h) (by decide +kernel) (Or.inl ⟨by rfl, ?_⟩) ?_; rotate_left 1; (focus (intro W hW; have hcW := hW.at; (try dsimp only at hcW); go_simp; first | done | with_reducible rfl)); try simp only [Act.put, List.setIfInBounds_toArray, List.set_cons_zero, List.set_cons_succ]) | (refine takeW 15 (v := ?_) rfl (by decide +kernel) (by decide +kernel) (by decide +kernel) (fun _ _ _ h => h) (Or.inl ⟨by rfl, ?_⟩) ?_; rotate_left 1; (focus (intro W hW; go_simp; first | done | with_reducible rfl)); try simp only [Act.put, List.setIfInBounds_toArray, List.set_cons_zero, List.set_cons_succ]) | (refine takeW 15 rfl (by decide +kernel) (by decide +kernel) (by decide +kernel) (fun _ _ _ h => h) (Or.inr ⟨by rfl, rfl⟩) ?_; try simp only [Act.put, List.setIfInBounds_toArray, List.set_cons_zero, List.set_cons_succ]) | skip))
          refine doneT (by kernel_rfl) ?_
          refine ⟨g7, A1, c1, A2, c2, FD, _, _, _, _, _, _, _, _, _, _, _, _, rfl, k7, ?_⟩
          have q := q7.out
          exact ⟨(hr.out.grown hg7 fun k hk => hk).mono fun _ _ => trivial, (hl.out.grown hg7 (fun k hk => hk) (by decide)).mono fun _ _ => trivial, Asr.grown hd.out hg7 nF.out (by omega) (Nat.le_of_lt hNX.out), below_grown hb.out hg7 (Nat.le_of_lt hNX.out) (by omega), by rw [hs7]; exact hNX.out⟩
        · clear hi
          refine ⟨_, rfl, by rfl, ?_⟩
          intro K hK
          go_simp
          have bb := (Below.refl u35.heap.size u35).alloc (Nat.le_refl _) pkZ
          have sm := smBlk (b1 := w.heap.size) (b2 := w.heap.size + 1) bb (by have := hb.out.size; have := hsz.out; have := hN2.out; omega) (by have := hb.out.size; have := hsz.out; have := hN2.out; omega)
          have b7 := Lib.hid (alloc1 u35 pkZ)
          have q7 := Lib.hid (show N < u35.heap.size from by have := hb.out.size; have := hsz.out; omega)
          have n7 := Lib.hid (show ¬ G u35.heap.size from fun hf => by have := (hG.out.2.2 _ hf).2; omega)
          replace hG := Lib.hid (Asr.below hG.out bb hNX.out)
          replace hb := Lib.hid (hb.out.trans (bb.mono hb.out.size))
          replace hNX := Lib.hid (Nat.le_trans hNX.out bb.size)
          refine hK _ _ (.inr sm) ?_
          clear hK K sm bb
          try simp only [Act.put, List.setIfInBounds_toArray, List.set_cons_zero, List.set_cons_succ]
          generalize u35.alloc pkZ = u38 at b7 q7 hNX hb n7 hG ⊢
          generalize u35.heap.size = g7 at b7 q7 hNX hb n7 hG ⊢
          refine stepTA [7] (by decide +kernel) (by decide) ?_
          intro i hi
          obtain rfl : i = 7 := by simpa using hi
          clear hi
          refine ⟨_, rfl, by rfl, ?_⟩
          intro K hK
          go_simp
          have hb0 := hb
          refine (KS.out u38 b' G hG.out hge.out hb.out hNX.out).mono ?_
          rintro e u39 ⟨A1, c1, A2, c2, S1, F, rfl, hr, hl, hF, hd, hm, hFn⟩
          have sm : Sm (fun a => a.block = w.heap.size ∨ a.block = w.heap.size + 1) u38 u39 := fun a ha => World.cell?_of_block (hm.keep _ (by have := hb.out.size; have := hsz.out; have := hN2.out; rcases ha with h | h <;> omega) (fun hs => hs.elim (fun e => by have := hN2.out; rcases ha with h | h <;> omega) (fun hf => by have := hge.out _ hf; have := hN2.out; rcases ha with h | h <;> omega)))
          obtain ⟨FD, FW, hd, _, _, hS1⟩ := hd
          have m7 := hm.box ⟨b7.out, show ¬ (g7 = N ∨ G g7) from fun hs => hs.elim (fun e => by have := q7.out; omega) n7.out⟩
          have nF := Lib.hid (show ¬ FD g7 from fun hf => m7.2 ((hS1 _).2 (.inl hf)))
          replace hr := Lib.hid (hr.mono (G := fun k => k ≠ g7) fun k hk e => by have := block_lt b7.out; have := hk.2.2; omega)
          replace hl := Lib.hid (hl.mono (G := fun k => k ≠ g7) fun k hk e => by subst e; exact (hFn _ hk).elim (fun hs => hs.elim (fun e => by have := q7.out; omega) n7.out) (fun h => by have := block_lt b7.out; omega))
          replace b7 := Lib.hid m7.1
          clear m7 n7
          replace hb := Lib.hid ((hb.out.mono (by have := hsz.out; omega)).trans (hm.belowN (N := N) (fun k hk => hk.elim (fun e => Nat.le_of_eq e.symm) (fun h => Nat.le_of_lt (hge.out k h))) hNX.out))
          replace hNX := Lib.hid (show N < u39.heap.size from Nat.lt_of_lt_of_le (by have := hb0.out.size; have := hsz.out; omega) hm.size)
          replace hd := Lib.hid hd
          refine hK _ _ (.inr sm) ?_
          clear hK K sm hm hF hFn hS1 hG hge
          try simp only [Act.put, List.setIfInBounds_toArray, List.set_cons_zero, List.set_cons_succ]
          clear hb0
          ((first | (refine takeT 8 (v := ?_) rfl (by decide +kernel) (by decide +kernel) (by decide +kernel) (fun _ _ _ h => h) (by decide +kernel) (Or.inl ⟨by rfl, ?_⟩) ?_; rotate_left 1; (focus (intro W hW; have hcW := hW.at; (try dsimp only at hcW); go_simp; first | done | with_reducible rfl)); try simp only [Act.put, List.setIfInBounds_toArray, List.set_cons_zero, List.set_cons_succ]) | (refine takeW 8 (v := ?_) rfl (by decide +kernel) (by decide +kernel) (by decide +kernel) (fun _ _ _ h => h) (Or.inl ⟨by rfl, ?_⟩) ?_; rotate_left 1; (focus (intro W hW; go_simp; first | done | with_reducible rfl)); try simp only [Act.put, List.setIfInBounds_toArray, List.set_cons_zero, List.set_cons_succ]) | (refine takeW 8 rfl (by decide +kernel) (by decide +kernel) (by decide +kernel) (fun _ _ _ h => h) (Or.inr ⟨by rfl, rfl⟩) ?_; try simp only [Act.put, List.setIfInBounds_toArray, List.set_cons_zero, List.set_cons_succ]) | skip); (first | (refine takeT 9 (v := ?_) rfl (by decide +kernel) (by decide +kernel) (by decide +kernel) (fun _ _ _ h => h) (by decide +kernel) (Or.inl ⟨by rfl, ?_⟩) ?_; rotate_left 1; (focus (intro W hW; have hcW := hW.at; (try dsimp only at hcW); go_simp; first | done | with_reducible rfl)); try simp only [Act.put, List.setIfInBounds_toArray, List.set_cons_zero, List.set_cons_succ]) | (refine takeW 9 (v := ?_) rfl (by decide +kernel) (by decide +kernel) (by decide +kernel) (fun _ _ _ h => h) (Or.inl ⟨by rfl, ?_⟩) ?_; rotate_left 1; (focus (intro W hW; go_simp; first | done | with_reducible rfl)); try simp only [Act.put, List.setIfInBounds_toArray, List.set_cons_zero, List.set_cons_succ]) | (refine takeW 9 rfl (by decide +kernel) (by decide +kernel) (by decide +kernel) (fun _ _ _ h => h) (Or.inr ⟨by rfl, rfl⟩) ?_; try simp only [Act.put, List.setIfInBounds_toArray, List.set_cons_zero, List.set_cons_succ]) | skip); (first | (refine takeT 10 (v := ?_) rfl (by decide +kernel) (by decide +kernel) (by decide +kernel) (fun _ _ _ h => h) (by decide +kernel) (Or.inl ⟨by rfl, ?_⟩) ?_; rotate_left 1; (focus (intro W hW; have hcW := hW.at; (try dsimp only at hcW); go_simp; first | done | with_reducible rfl)); try simp only [Act.put, List.setIfInBounds_toArray, List.set_cons_zero, List.set_cons_succ]) | (refine takeW 10 (v := ?_) rfl (by decide +kernel) (by decide +kernel) (by decide +kernel) (fun _ _ _ h => h) (Or.inl ⟨by rfl, ?_⟩) ?_; rotate_left 1; (focus (intro W hW; go_simp; first | done | with_reducible rfl)); try simp only [Act.put, List.setIfInBounds_toArray, List.set_cons_zero, List.set_cons_succ]) | (refine takeW 10 rfl (by decide +kernel) (by decide +kernel) (by decide +kernel) (fun _ _ _ h => h) (Or.inr ⟨by rfl, rfl⟩) ?_; try simp only [Act.put, List.setIfInBounds_toArray, List.set_cons_zero, List.set_cons_succ]) | skip); (first | (refine takeT 11 (v := ?_) rfl (by decide +kernel) (by decide +kernel) (by decide +kernel) (fun _ _ _ h => h) (by decide +kernel) (Or.inl ⟨by rfl, ?_⟩) ?_; rotate_left 1; (focus (intro W hW; have hcW := hW.at; (try dsimp only at hcW); go_simp; first | done | with_reducible rfl)); try simp only [Act.put, List.setIfInBounds_toArray, List.set_cons_zero, List.set_cons_succ]) | (refine takeW 11 (v := ?_) rfl (by decide +kernel) (by decide +kernel) (by decide +kernel) (fun _ _ _ h => h) (Or.inl ⟨by rfl, ?_⟩) ?_; rotate_left 1; (focus (intro W hW; go_simp; first | done | with_reducible rfl)); try simp only [Act.put, List.setIfInBounds_toArray, List.set_cons_zero, List.set_cons_succ]) | (refine takeW 11 rfl (by decide +kernel) (by decide +kernel) (by decide +kernel) (fun _ _ _ h => h) (Or.inr ⟨by rfl, rfl⟩) ?_; try simp only [Act.put, List.setIfInBounds_toArray, List.set_cons_zero, List.set_cons_succ]) | skip))
          refine stepT 13 rfl (by decide +kernel) (by rfl) ?_
          intro K hK
          refine wp_storeB flatPk (.tmp 7) (.tmp 40) rfl g7 rfl _ rfl b7.out rfl rfl rfl ?_
          intro y k7 hg7 hs7
          refine hK _ _ (.inl (by decide)) ?_
          clear hK K
          try simp only [Act.put, List.setIfInBounds_toArray, List.set_cons_zero, List.set_cons_succ]
          ((first | (refine takeT 14 (v := ?_) rfl (by decide +kernel) (by decide +kernel) (by decide +kernel) (fun _ _ _ h => h) (by decide +kernel) (Or.inl ⟨by rfl, ?_⟩) ?_; rotate_left 1; (focus (intro W hW; have hcW := hW.at; (try dsimp only at hcW); go_simp; first | done | with_reducible rfl)); try simp only [Act.put, List.setIfInBounds_toArray, List.set_cons_zero, List.set_cons_succ]) | (refine takeW 14 (v := ?_) rfl (by decide +kernel) (by decide +kernel) (by decide +kernel) (fun _ _ _ h => h) (Or.inl ⟨by rfl, ?_⟩) ?_; rotate_left 1; (focus (intro W hW; go_simp; first | done | with_reducible rfl)); try simp only [Act.put, List.setIfInBounds_toArray, List.set_cons_zero, List.set_cons_succ]) | (refine takeW 14 rfl (by decide +kernel) (by decide +kernel) (by decide +kernel) (fun _ _ _ h => h) (Or.inr ⟨by rfl, rfl⟩) ?_; try simp only [Act.put, List.setIfInBounds_toArray, List.set_cons_zero, List.set_cons_succ]) | skip); (first | (refine takeT 15 (v := ?_) rfl (by decide +kernel) (by decide +kernel) (by decide +kernel) (fun _ _ _ h => h) (by decide +kernel) (Or.inl ⟨by rfl, ?_⟩) ?_; rotate_left 1; (focus (intro W hW; have hcW := hW.at; (try dsimp only at hcW); go_simp; first | done | with_reducible rfl)); try simp only [Act.put, List.setIfInBounds_toArray, List.set_cons_zero, List.set_cons_succ]) | (refine takeW 15 (v := ?_) rfl (by decide +kernel) (by decide +kernel) (by decide +kernel) (fun _ _ _ h => h) (Or.inl ⟨by rfl, ?_⟩) ?_; rotate_left 1; (focus (intro W hW; go_simp; first | done | with_reducible rfl)); try simp only [Act.put, List.setIfInBounds_toArray, List.set_cons_zero, List.set_cons_succ]) | (refine takeW 15 rfl (by decide +kernel) (by decide +kernel) (by decide +kernel) (fun _ _ _ h => h) (Or.inr ⟨by rfl, rfl⟩) ?_; try simp only [Act.put, List.setIfInBounds_toArray, List.set_cons_zero, List.set_cons_succ]) | skip))
          refine doneT (by kernel_rfl) ?_
          refine ⟨g7, A1, c1, A2, c2, FD, _, _, _, _, _, _, _, _, _, _, _, _, rfl, k7, ?_⟩
          have q := q7.out
          exact ⟨(hr.out.grown hg7 fun k hk => hk).mono fun _ _ => trivial, (hl.out.grown hg7 (fun k hk => hk) (by decide)).mono fun _ _ => trivial, Asr.grown hd.out hg7 nF.out (by omega) (Nat.le_of_lt hNX.out), below_grown hb.out hg7 (Nat.le_of_lt hNX.out) (by omega), by rw [hs7]; exact hNX.out⟩
      · clear hi
        refine ⟨_, rfl, by rfl, ?_⟩
        intro K hK
        go_simp
        have bb := (Below.refl x0.heap.size x0).alloc (Nat.le_refl _) pkZ
        have sm := smBlk (b1 := w.heap.size) (b2 := w.heap.size + 1) bb (by have := hb.out.size; have := hsz.out; have := hN2.out; omega) (by have := hb.out.size; have := hsz.out; have := hN2.out; omega)
        have b7 := Lib.hid (alloc1 x0 pkZ)
        have q7 := Lib.hid (show N < x0.heap.size from by have := hb.out.size; have := hsz.out; omega)
        replace hb := Lib.hid (hb.out.trans (bb.mono hb.out.size))
        replace hNX := Lib.hid (Nat.le_trans hNX.out bb.size)
        refine hK _ _ (.inr sm) ?_
        clear hK K sm bb
        try simp only [Act.put, List.setIfInBounds_toArray, List.set_cons_zero, List.set_cons_succ]
        generalize x0.alloc pkZ = u40 at b7 q7 hNX hb ⊢
        generalize x0.heap.size = g7 at b7 q7 hNX hb ⊢
        refine stepTA [4] (by decide +kernel) (by decide) ?_
        intro i hi
        obtain rfl : i = 4 := by simpa using hi
        clear hi
        refine ⟨_, rfl, by rfl, ?_⟩
        intro K hK
        go_simp
        refine (KW.out u40 hb.out).mono ?_
        rintro e u41 ⟨b', G, rfl, hG, bb⟩
        have sm := smBlk (b1 := w.heap.size) (b2 := w.heap.size + 1) bb (by have := hb.out.size; have := hsz.out; have := hN2.out; omega) (by have := hb.out.size; have := hsz.out; have := hN2.out; omega)
        have n7 := Lib.hid (show ¬ G g7 from fun hf => by have := (hG.2.2 _ hf).1; have := block_lt b7.out; omega)
        replace b7 := Lib.hid ((bb.block _ (block_lt b7.out)).trans b7.out)
        have hge := Lib.hid (show ∀ k, G k → N < k from fun k hk => by have := (hG.2.2 k hk).1; have := hb.out.size; have := hsz.out; omega)
        replace hb := Lib.hid (hb.out.trans (bb.mono hb.out.size))
        replace hG := Lib.hid (lineA_base (N := N) hG hNX.out)
        replace hNX := Lib.hid (Nat.le_trans hNX.out bb.size)
        refine hK _ _ (.inr sm) ?_
        clear hK K sm bb
        try simp only [Act.put, List.setIfInBounds_toArray, List.set_cons_zero, List.set_cons_succ]
        ((first | (refine takeT 5 (v := ?_) rfl (by decide +kernel) (by decide +kernel) (by decide +kernel) (fun _ _ _ h => h) (by decide +kernel) (Or.inl ⟨by rfl, ?_⟩) ?_; rotate_left 1; (focus (intro W hW; have hcW := hW.at; (try dsimp only at hcW); go_simp; first | done | with_reducible rfl)); try simp only [Act.put, List.setIfInBounds_toArray, List.set_cons_zero, List.set_cons_succ]) | (refine takeW 5 (v := ?_) rfl (by decide +kernel) (by decide +kernel) (by decide +kernel) (fun _ _ _ h => h) (Or.inl ⟨by rfl, ?_⟩) ?_; rotate_left 1; (focus (intro W hW; go_simp; first | done | with_reducible rfl)); try simp only [Act.put, List.setIfInBounds_toArray, List.set_cons_zero, List.set_cons_succ]) | (refine takeW 5 rfl (by decide +kernel) (by decide +kernel) (by decide +kernel) (fun _ _ _ h => h) (Or.inr ⟨by rfl, rfl⟩) ?_; try simp only [Act.put, List.setIfInBounds_toArray, List.set_cons_zero, List.set_cons_succ]) | skip))
        refine stepTA [7] (by decide +kernel) (by decide) ?_
        intro i hi
        obtain rfl : i = 7 := by simpa using hi
        clear hi
        refine ⟨_, rfl, by rfl, ?_⟩
        intro K hK
        go_simp
        have hb0 := hb
        refine (KS.out u41 b' G hG.out hge.out hb.out hNX.out).mono ?_
        rintro e u42 ⟨A1, c1, A2, c2, S1, F, rfl, hr, hl, hF, hd, hm, hFn⟩
        have sm : Sm (fun a => a.block = w.heap.size ∨ a.block = w.heap.size + 1) u41 u42 := fun a ha => World.cell?_of_block (hm.keep _ (by have := hb.out.size; have := hsz.out; have := hN2.out; rcases ha with h | h <;> omega) (fun hs => hs.elim (fun e => by have := hN2.out; rcases ha with h | h <;> omega) (fun hf => by have := hge.out _ hf; have := hN2.out; rcases ha with h | h <;> omega)))
        obtain ⟨FD, FW, hd, _, _, hS1⟩ := hd
        have m7 := hm.box ⟨b7.out, show ¬ (g7 = N ∨ G g7) from fun hs => hs.elim (fun e => by have := q7.out; omega) n7.out⟩
        have nF := Lib.hid (show ¬ FD g7 from fun hf => m7.2 ((hS1 _).2 (.inl hf)))
        replace hr := Lib.hid (hr.mono (G := fun k => k ≠ g7) fun k hk e => by have := block_lt b7.out; have := hk.2.2; omega)
        replace hl := Lib.hid (hl.mono (G := fun k => k ≠ g7) fun k hk e => by subst e; exact (hFn _ hk).elim (fun hs => hs.elim (fun e => by have := q7.out; omega) n7.out) (fun h => by have := block_lt b7.out; omega))
        replace b7 := Lib.hid m7.1
        clear m7 n7
        replace hb := Lib.hid ((hb.out.mono (by have := hsz.out; omega)).trans (hm.belowN (N := N) (fun k hk => hk.elim (fun e => Nat.le_of_eq e.symm) (fun h => Nat.le_of_lt (hge.out k h))) hNX.out))
        replace hNX := Lib.hid (show N < u42.heap.size from Nat.lt_of_lt_of_le (by have := hb0.out.size; have := hsz.out; omega) hm.size)
        replace hd := Lib.hid hd
        refine hK _ _ (.inr sm) ?_
        clear hK K sm hm hF hFn hS1 hG hge
        try simp only [Act.put, List.setIfInBounds_toArray, List.set_cons_zero, List.set_cons_succ]
        clear hb0
        ((first | (refine takeT 8 (v := ?_) rfl (by decide +kernel) (by decide +kernel) (by decide +kernel) (fun _ _ _ h => h) (by decide +kernel) (Or.inl ⟨by rfl, ?_⟩) ?_; rotate_left 1; (focus (intro W hW; have hcW := hW.at; (try dsimp only at hcW); go_simp; first | done | with_reducible rfl)); try simp only [Act.put, List.setIfInBounds_toArray, List.set_cons_zero, List.set_cons_succ]) | (refine takeW 8 (v := ?_) rfl (by decide +kernel) (by decide +kernel) (by decide +kernel) (fun _ _ _ h => h) (Or.inl ⟨by rfl, ?_⟩) ?_; rotate_left 1; (focus (intro W hW; go_simp; first | done | with_reducible rfl)); try simp only [Act.put, List.setIfInBounds_toArray, List.set_cons_zero, List.set_cons_succ]) | (refine takeW 8 rfl (by decide +kernel) (by decide +kernel) (by decide +kernel) (fun _ _ _ h => h) (Or.inr ⟨by rfl, rfl⟩) ?_; try simp only [Act.put, List.setIfInBounds_toArray, List.set_cons_zero, List.set_cons_succ]) | skip); (first | (refine takeT 9 (v := ?_) rfl (by decide +kernel) (by decide +kernel) (by decide +kernel) (fun _ _ _ h => h) (by decide +kernel) (Or.inl ⟨by rfl, ?_⟩) ?_; rotate_left 1; (focus (intro W hW; have hcW := hW.at; (try dsimp only at hcW); go_simp; first | done | with_reducible rfl)); try simp only [Act.put, List.setIfInBounds_toArray, List.set_cons_zero, List.set_cons_succ]) | (refine takeW 9 (v := ?_) rfl (by decide +kernel) (by decide +kernel) (by decide +kernel) (fun _ _ _ h => h) (Or.inl ⟨by rfl, ?_⟩) ?_; rotate_left 1; (focus (intro W hW; go_simp; first | done | with_reducible rfl)); try simp only [Act.put, List.setIfInBounds_toArray, List.set_cons_zero, List.set_cons_succ]) | (refine takeW 9 rfl (by decide +kernel) (by decide +kernel) (by decide +kernel) (fun _ _ _ h => h) (Or.inr ⟨by rfl, rfl⟩) ?_; try simp only [Act.put, List.setIfInBounds_toArray, List.set_cons_zero, List.set_cons_succ]) | skip); (first | (refine takeT 10 (v := ?_) rfl (by decide +kernel) (by decide +kernel) (by decide +kernel) (fun _ _ _ h => h) (by decide +kernel) (Or.inl ⟨by rfl, ?_⟩) ?_; rotate_left 1; (focus (intro W hW; have hcW := hW.at; (try dsimp only at hcW); go_simp; first | done | with_reducible rfl)); try simp only [Act.put, List.setIfInBounds_toArray, List.set_cons_zero, List.set_cons_succ]) | (refine takeW 10 (v := ?_) rfl (by decide +kernel) (by decide +kernel) (by decide +kernel) (fun _ _ _ h => h) (Or.inl ⟨by rfl, ?_⟩) ?_; rotate_left 1; (focus (intro W hW; go_simp; first | done | with_reducible rfl)); try simp only [Act.put, List.setIfInBounds_toArray, List.set_cons_zero, List.set_cons_succ]) | (refine takeW 10 rfl (by decide +kernel) (by decide +kernel) (by decide +kernel) (fun _ _ _ h => h) (Or.inr ⟨by rfl, rfl⟩) ?_; try simp only [Act.put, List.setIfInBounds_toArray, List.set_cons_zero, List.set_cons_succ]) | skip); (first | (refine takeT 11 (v := ?_) rfl (by decide +kernel) (by decide +kernel) (by decide +kernel) (fun _ _ _ h => h) (by decide +kernel) (Or.inl ⟨by rfl, ?_⟩) ?_; rotate_left 1; (focus (intro W hW; have hcW := hW.at; (try dsimp only at hcW); go_simp; first | done | with_reducible rfl)); try simp only [Act.put, List.setIfInBounds_toArray, List.set_cons_zero, List.set_cons_succ]) | (refine takeW 11 (v := ?_) rfl (by decide +kernel) (by decide +kernel) (by decide +kernel) (fun _ _ _ h => h) (Or.inl ⟨by rfl, ?_⟩) ?_; rotate_left 1; (focus (intro W hW; go_simp; first | done | with_reducible rfl)); try simp only [Act.put, List.setIfInBounds_toArray, List.set_cons_zero, List.set_cons_succ]) | (refine takeW 11 rfl (by decide +kernel) (by decide +kernel) (by decide +kernel) (fun _ _ _ h => h) (Or.inr ⟨by rfl, rfl⟩) ?_; try simp only [Act.put, List.setIfInBounds_toArray, List.set_cons_zero, List.set_cons_succ]) | skip))
        refine stepT 13 rfl (by decide +kernel) (by rfl) ?_
        intro K hK
        refine wp_storeB flatPk (.tmp 7) (.tmp 40) rfl g7 rfl _ rfl b7.out rfl rfl rfl ?_
        intro y k7 hg7 hs7
        refine hK _ _ (.inl (by decide)) ?_
        clear hK K
        try simp only [Act.put, List.setIfInBounds_toArray, List.set_cons_zero, List.set_cons_succ]
        ((first | (refine takeT 14 (v := ?_) rfl (by decide +kernel) (by decide +kernel) (by decide +kernel) (fun _ _ _ h => h) (by decide +kernel) (Or.inl ⟨by rfl, ?_⟩) ?_; rotate_left 1; (focus (intro W hW; have hcW := hW.at; (try dsimp only at hcW); go_simp; first | done | with_reducible rfl)); try simp only [Act.put, List.setIfInBounds_toArray, List.set_cons_zero, List.set_cons_succ]) | (refine takeW 14 (v := ?_) rfl (by decide +kernel) (by decide +kernel) (by decide +kernel) (fun _ _ _ h => h) (Or.inl ⟨by rfl, ?_⟩) ?_; rotate_left 1; (focus (intro W hW; go_simp; first | done | with_reducible rfl)); try simp only [Act.put, List.setIfInBounds_toArray, List.set_cons_zero, List.set_cons_succ]) | (refine takeW 14 rfl (by decide +kernel) (by decide +kernel) (by decide +kernel) (fun _ _ _ h => h) (Or.inr ⟨by rfl, rfl⟩) ?_; try simp only [Act.put, List.setIfInBounds_toArray, List.set_cons_zero, List.set_cons_succ]) | skip); (first | (refine takeT 15 (v := ?_) rfl (by decide +kernel) (by decide +kernel) (by decide +kernel) (fun _ _ _ h => h) (by decide +kernel) (Or.inl ⟨by rfl, ?_⟩) ?_; rotate_left 1; (focus (intro W hW; have hcW := hW.at; (try dsimp only at hcW); go_simp; first | done | with_reducible rfl)); try simp only [Act.put, List.setIfInBounds_toArray, List.set_cons_zero, List.set_cons_succ]) | (refine takeW 15 (v := ?_) rfl (by decide +kernel) (by decide +kernel) (by decide +kernel) (fun _ _ _ h => h) (Or.inl ⟨by rfl, ?_⟩) ?_; rotate_left 1; (focus (intro W hW; go_simp; first | done | with_reducible rfl)); try simp only [Act.put, List.setIfInBounds_toArray, List.set_cons_zero, List.set_cons_succ]) | (refine takeW 15 rfl (by decide +kernel) (by decide +kernel) (by decide +kernel) (fun _ _ _ h => h) (Or.inr ⟨by rfl, rfl⟩) ?_; try simp only [Act.put, List.setIfInBounds_toArray, List.set_cons_zero, List.set_cons_succ]) | skip))
        refine doneT (by kernel_rfl) ?_
        refine ⟨g7, A1, c1, A2, c2, FD, _, _, _, _, _, _, _, _, _, _, _, _, rfl, k7, ?_⟩
        have q := q7.out
        exact ⟨(hr.out.grown hg7 fun k hk => hk).mono fun _ _ => trivial, (hl.out.grown hg7 (fun k hk => hk) (by decide)).mono fun _ _ => trivial, Asr.grown hd.out hg7 nF.out (by omega) (Nat.le_of_lt hNX.out), below_grown hb.out hg7 (Nat.le_of_lt hNX.out) (by omega), by rw [hs7]; exact hNX.out⟩
    · rintro act y ⟨g7, A1, c1, A2, c2, FD, v31, v32, v33, v34, v35, v36, v37, v38, v39, v40, v41, v42, rfl, k7, hr7, hl7, hd7, hb7, hN7⟩
      have K7 := Lib.hid k7
      have Hr7 := Lib.hid hr7
      have Hl7 := Lib.hid hl7
      have Hd7 := Lib.hid hd7
      have Hb7 := Lib.hid hb7
      have HN7 := Lib.hid hN7
      clear k7 hr7 hl7 hd7 hb7 hN7 KW KS
      have hk : ∀ k, k < N → y.heap[k]? = y1.heap[k]? := fun k hk => (Hb7.out.block k hk).trans (Ha2.out.block k hk)
      have B02 := Lib.hid ((hk _ (by have := hN2.out; omega)).trans B01.out)
      have B12 := Lib.hid ((hk _ hN2.out).trans B11.out)
      have Hw7 := Lib.hid (show Below w.heap.size w y from ⟨Hb7.out.os.trans (Ha2.out.os.trans Hb1.out.os), Hb7.out.tape.trans (Ha2.out.tape.trans Hb1.out.tape), Hb7.out.output.trans (Ha2.out.output.trans Hb1.out.output), by have := HN7.out; have := Hb1.out.size; have := HN1.out; omega, fun k hk0 => (hk k (by have := hN2.out; omega)).trans (Hb1.out.block k hk0)⟩)
      clear hk
      have KF := Lib.hid fun (X : World) (hb : Below y.heap.size y X) => show Calls Tryd.prog 21 #[.slice B xs.length cb] X (ResO X 25 fs) from by
        have hwX := Hw7.out.trans (hb.mono Hw7.out.size)
        have := faults_any X B cb xs ((Hx.out.keep (w' := X) fun k hk => hwX.block k hk).rdT) Hxl.out
        rw [Hfs.out] at this
        exact this
      have KRS := Lib.hid fun (X : World) (M : Nat) (hM : M ≤ X.heap.size) (hyM : y.heap.size ≤ M) (hb : Below y.heap.size y X) (Af : Option Addr) (cf : Nat) (hf : RdS (fun k => k < M) X Af cf fs) => show Calls Tryd.prog 20 #[.agg #[.slice A' l.length c', .slice Af fs.length cf, .slice none 0 0, .slice none 0 0], pkV p A c] X (RspPost ⟨M, y.heap.size⟩ x6 (a, o) (fun _ => False) X) from by
        have hwX := Hw7.out.trans (hb.mono Hw7.out.size)
        have hws := Hw7.out.size
        have := rsp_any X ⟨M, y.heap.size⟩ (.agg #[.slice A' l.length c', .slice Af fs.length cf, .slice none 0 0, .slice none 0 0]) ⟨l, fs, [], []⟩ (fun _ => False) ⟨A', c', Af, cf, none, 0, none, 0, rfl, (Hla.out.keep (w' := X) fun k hk => hwX.block k hk).mono fun k hk => ⟨Nat.lt_of_lt_of_le hk hws, Nat.lt_of_lt_of_le hk (Nat.le_trans hws hyM)⟩, hf, OwnB.nil _ _, OwnB.nil _ _, (fun k h => by cases h), (fun k => ⟨False.elim, fun h => by rcases h with h | h <;> cases h⟩)⟩ p Hok.out A c ((Hr.out.keep (w' := X) fun k hk => hwX.block k hk).mono fun k hk => ⟨Nat.lt_of_lt_of_le hk hws, Nat.lt_of_lt_of_le hk (Nat.le_trans hws hyM)⟩) (Nat.zero_le _) (Nat.zero_le _) Ham.out hM
        rw [H6.out] at this
        exact this
      have d0 := block_at B12.out (i := 0) (v := .slice A' l.length c') rfl
      go_wp2
      refine region_inv (fun a₀ act z => ∃ (g10 g11 : Nat) (Aa : Option Addr) (ca : Nat) (Af : Option Addr) (cf : Nat) (B2 : Option Addr) (e2 : Nat) (B3 : Option Addr) (e3 : Nat) (B4 : Option Addr) (e4 : Nat) (v43 v44 v45 v46 v47 v48 v49 v50 v51 v52 v53 v54 : Value),
        act = { tmps := #[pkV p A c, .agg #[.slice A' l.length c', .slice B xs.length cb], .pointer (some ⟨w.heap.size, 0, none⟩), .pointer (some ⟨w.heap.size + 1, 0, none⟩), .bool false, .string ⟨p.data.toArray⟩, .pointer (some ⟨N, 0, none⟩), .pointer (some ⟨g7, 0, none⟩), .bool o, .slice A2 x6.sent.length c2, .pointer (some ⟨g10, 0, none⟩), .pointer (some ⟨g11, 0, none⟩), .bool o, undef, undef,
          .pointer (some ⟨w.heap.size, 9, none⟩), .slice A p.data.length c, .int .i64 p.data.length, .bool false, .bool false, .agg #[.slice A' l.length c', .slice B xs.length cb], .bool true, .bool false, .bool false, .pointer (some ⟨w.heap.size, 9, none⟩), .slice A p.data.length c, .string ⟨p.data.toArray⟩, .pointer (some ⟨w.heap.size + 1, 0, none⟩), .slice A' l.length c', .agg #[.slice A' l.length c', .slice none 0 0], .pointer (some ⟨N, 0, none⟩), v31, v32, v33, v34, v35, v36, v37, v38, v39, v40, v41, v42, v43, v44, v45, v46, v47, v48, v49, v50, v51, v52, v53, v54, undef, undef, undef, undef, undef, undef, undef, undef, undef, undef, undef, undef, undef, undef, undef, undef, undef, undef, undef, undef, undef, undef, undef, undef, undef, undef, undef, undef, undef, undef, undef, undef, undef, undef, undef, undef, undef, undef, undef, undef, undef, undef, undef, undef, undef, undef, undef, undef, undef, undef, undef, undef, undef, undef, undef, undef, undef, undef], defers := [] } ∧
        z.heap[g10]? = some (.cells #[.slice Aa x6.ans.length ca, .slice Af x6.flt.length cf, .slice B2 x6.heard.length e2, .slice B3 x6.sent.length e3] 67 (0, 0)) ∧ z.heap[g11]? = some (pkB a B4 e4) ∧ RdS (fun _ => True) z B4 e4 a.data ∧ RdL layPk (fun _ => True) z B2 e2 x6.heard ∧ RdL laySn (fun _ => True) z B3 e3 x6.sent ∧ Below y.heap.size y z) ?_ ?_
      · refine startTP (S := fun a => a.block = w.heap.size ∨ a.block = w.heap.size + 1) (T := [14, 15]) (fun X => Below y.heap.size y X) 17 (by kernel_rfl) rfl (l := #[false, false, false, false, false, false, false, false, false, false, false, false, false, false, false, false, false]) rfl (Below.refl _ _).drew ?_
        rintro x0 hb
        have d1 := range_of ((hb.block _ (block_lt B02.out)).trans B02.out)
        have d2 := block_at ((hb.block _ (block_lt B12.out)).trans B12.out) (i := 1) (v := .slice B xs.length cb) rfl
        have d3 := block_at ((hb.block _ (block_lt B12.out)).trans B12.out) (i := 0) (v := .slice A' l.length c') rfl
        replace hb := Lib.hid hb
        clear d0
        ((first | (refine takeT 0 (v := ?_) rfl (by decide +kernel) (by decide +kernel) (by decide +kernel) (fun _ _ _ h => h) (by decide +kernel) (Or.inl ⟨by rfl, ?_⟩) ?_; rotate_left 1; (focus (intro W hW; have hcW := hW.at; (try dsimp only at hcW); go_simp; first | done | with_reducible rfl)); try simp only [Act.put, List.setIfInBounds_toArray, List.set_cons_zero, List.set_cons_succ]) | (refine takeW 0 (v := ?_) rfl (by decide +kernel) (by decide +kernel) (by decide +kernel) (fun _ _ _ h => h) (Or.inl ⟨by rfl, ?_⟩) ?_; rotate_left 1; (focus (intro W hW; go_simp; first | done | with_reducible rfl)); try simp only [Act.put, List.setIfInBounds_toArray, List.set_cons_zero, List.set_cons_succ]) | (refine takeW 0 rfl (by decide +kernel) (by decide +kernel) (by decide +kernel) (fun _ _ _ h => h) (Or.inr ⟨by rfl, rfl⟩) ?_; try simp only [Act.put, List.setIfInBounds_toArray, List.set_cons_zero, List.set_cons_succ]) | skip); (first | (refine takeT 1 (v := ?_) rfl (by decide +kernel) (by decide +kernel) (by decide +kernel) (fun _ _ _ h => h) (by decide +kernel) (Or.inl ⟨by rfl, ?_⟩) ?_; rotate_left 1; (focus (intro W hW; have hcW := hW.at; (try dsimp only at hcW); go_simp; first | done | with_reducible rfl)); try simp only [Act.put, List.setIfInBounds_toArray, List.set_cons_zero, List.set_cons_succ]) | (refine takeW 1 (v := ?_) rfl (by decide +kernel) (by decide +kernel) (by decide +kernel) (fun _ _ _ h => h) (Or.inl ⟨by rfl, ?_⟩) ?_; rotate_left 1; (focus (intro W hW; go_simp; first | done | with_reducible rfl)); try simp only [Act.put, List.setIfInBounds_toArray, List.set_cons_zero, List.set_cons_succ]) | (refine takeW 1 rfl (by decide +kernel) (by decide +kernel) (by decide +kernel) (fun _ _ _ h => h) (Or.inr ⟨by rfl, rfl⟩) ?_; try simp only [Act.put, List.setIfInBounds_toArray, List.set_cons_zero, List.set_cons_succ]) | skip); (first | (refine takeT 2 (v := ?_) rfl (by decide +kernel) (by decide +kernel) (by decide +kernel) (fun _ _ _ h => h) (by decide +kernel) (Or.inl ⟨by rfl, ?_⟩) ?_; rotate_left 1; (focus (intro W hW; have hcW := hW.at; (try dsimp only at hcW); go_simp; first | done | with_reducible rfl)); try simp only [Act.put, List.setIfInBounds_toArray, List.set_cons_zero, List.set_cons_succ]) | (refine takeW 2 (v := ?_) rfl (by decide +kernel) (by decide +kernel) (by decide +kernel) (fun _ _ _ h => h) (Or.inl ⟨by rfl, ?_⟩) ?_; rotate_left 1; (focus (intro W hW; go_simp; first | done | with_reducible rfl)); try simp only [Act.put, List.setIfInBounds_toArray, List.set_cons_zero, List.set_cons_succ]) | (refine takeW 2 rfl (by decide +kernel) (by decide +kernel) (by decide +kernel) (fun _ _ _ h => h) (Or.inr ⟨by rfl, rfl⟩) ?_; try simp only [Act.put, List.setIfInBounds_toArray, List.set_cons_zero, List.set_cons_succ]) | skip); (first | (refine takeT 3 (v := ?_) rfl (by decide +kernel) (by decide +kernel) (by decide +kernel) (fun _ _ _ h => h) (by decide +kernel) (Or.inl ⟨by rfl, ?_⟩) ?_; rotate_left 1; (focus (intro W hW; have hcW := hW.at; (try dsimp only at hcW); go_simp; first | done | with_reducible rfl)); try simp only [Act.put, List.setIfInBounds_toArray, List.set_cons_zero, List.set_cons_succ]) | (refine takeW 3 (v := ?_) rfl (by decide +kernel) (by decide +kernel) (by decide +kernel) (fun _ _ _ h => h) (Or.inl ⟨by rfl, ?_⟩) ?_; rotate_left 1; (focus (intro W hW; go_simp; first | done | with_reducible rfl)); try simp only [Act.put, List.setIfInBounds_toArray, List.set_cons_zero, List.set_cons_succ]) | (refine takeW 3 rfl (by decide +kernel) (by decide +kernel) (by decide +kernel) (fun _ _ _ h => h) (Or.inr ⟨by rfl, rfl⟩) ?_; try simp only [Act.put, List.setIfInBounds_toArray, List.set_cons_zero, List.set_cons_succ]) | skip))
        clear d2 d3
        refine takeT 6 (v := pkV p A c) rfl (by decide +kernel) (by decide +kernel) (by decide +kernel) (fun _ _ _ h => h) (by decide +kernel) (yieldsIf_load_mid (by rfl) _ (.tmp 2) rfl w.heap.size 0 rfl (pkL p A c) _ (fun W hW => range_sm hW (fun j => .inl rfl) d1) Tryd.underlying40 rfl (by kernel_rfl)) ?_
        try simp only [Act.put, List.setIfInBounds_toArray, List.set_cons_zero, List.set_cons_succ]
        clear d1
        refine stepTA [4, 12, 13] (by decide +kernel) (by decide) ?_
        intro i hi
        rcases (by simpa using hi : i = 4 ∨ i = 12 ∨ i = 13) with rfl | rfl | rfl
        · clear hi
          refine ⟨_, rfl, by rfl, ?_⟩
          intro K hK
          go_simp
          refine (KF.out x0 hb.out).mono ?_
          rintro e u1 ⟨v, rfl, ho, bb⟩
          obtain ⟨Af, cf, rfl, hf⟩ := RdS.of_own ho
          have sm := smBlk (b1 := w.heap.size) (b2 := w.heap.size + 1) bb (by have := hb.out.size; have := HN7.out; have := hN2.out; omega) (by have := hb.out.size; have := HN7.out; have := hN2.out; omega)
          replace hb := Lib.hid (hb.out.trans (bb.mono hb.out.size))
          refine hK _ _ (.inr sm) ?_
          clear hK K sm bb ho
          try simp only [Act.put, List.setIfInBounds_toArray, List.set_cons_zero, List.set_cons_succ]
          have hyM := Lib.hid hb.out.size
          have hM := Lib.hid (Nat.le_refl u1.heap.size)
          replace hf := Lib.hid (hf.mono (G := fun k => k < u1.heap.size) fun k hk => hk.2)
          obtain ⟨M, hMe⟩ : ∃ M, u1.heap.size = M := ⟨_, rfl⟩
          rw [hMe] at hyM hf
          replace hM := Lib.hid (Nat.le_of_eq hMe.symm)
          clear hMe
          ((first | (refine takeT 5 (v := ?_) rfl (by decide +kernel) (by decide +kernel) (by decide +kernel) (fun _ _ _ h => h) (by decide +kernel) (Or.inl ⟨by rfl, ?_⟩) ?_; rotate_left 1; (focus (intro W hW; have hcW := hW.at; (try dsimp only at hcW); go_simp; first | done | with_reducible rfl)); try simp only [Act.put, List.setIfInBounds_toArray, List.set_cons_zero, List.set_cons_succ]) | (refine takeW 5 (v := ?_) rfl (by decide +kernel) (by decide +kernel) (by decide +kernel) (fun _ _ _ h => h) (Or.inl ⟨by rfl, ?_⟩) ?_; rotate_left 1; (focus (intro W hW; go_simp; first | done | with_reducible rfl)); try simp only [Act.put, List.setIfInBounds_toArray, List.set_cons_zero, List.set_cons_succ]) | (refine takeW 5 rfl (by decide +kernel) (by decide +kernel) (by decide +kernel) (fun _ _ _ h => h) (Or.inr ⟨by rfl, rfl⟩) ?_; try simp only [Act.put, List.setIfInBounds_toArray, List.set_cons_zero, List.set_cons_succ]) | skip))
          refine stepTA [7, 12, 13] (by decide +kernel) (by decide) ?_
          intro i hi
          rcases (by simpa using hi : i = 7 ∨ i = 12 ∨ i = 13) with rfl | rfl | rfl
          · clear hi
            refine ⟨_, rfl, by rfl, ?_⟩
            intro K hK
            go_simp
            refine (KRS.out u1 M hM.out hyM.out hb.out Af cf hf.out).mono ?_
            rintro e u2 ⟨v', F', A', c', rfl, ra, hw, hm⟩
            have bb := hm.belowN (N := u1.heap.size) (fun k hk => hk.elim) (Nat.le_refl _)
            have sm := smBlk (b1 := w.heap.size) (b2 := w.heap.size + 1) bb (by have := hb.out.size; have := HN7.out; have := hN2.out; omega) (by have := hb.out.size; have := HN7.out; have := hN2.out; omega)
            replace hb := Lib.hid (hb.out.trans (bb.mono hb.out.size))
            replace hM := Lib.hid (Nat.le_trans hM.out bb.size)
            replace ra := Lib.hid ra
            replace hw := Lib.hid hw
            refine hK _ _ (.inr sm) ?_
            clear hK K sm bb hm hf
            try simp only [Act.put, List.setIfInBounds_toArray, List.set_cons_zero, List.set_cons_succ]
            ((first | (refine takeT 8 (v := ?_) rfl (by decide +kernel) (by decide +kernel) (by decide +kernel) (fun _ _ _ h => h) (by decide +kernel) (Or.inl ⟨by rfl, ?_⟩) ?_; rotate_left 1; (focus (intro W hW; have hcW := hW.at; (try dsimp only at hcW); go_simp; first | done | with_reducible rfl)); try simp only [Act.put, List.setIfInBounds_toArray, List.set_cons_zero, List.set_cons_succ]) | (refine takeW 8 (v := ?_) rfl (by decide +kernel) (by decide +kernel) (by decide +kernel) (fun _ _ _ h => h) (Or.inl ⟨by rfl, ?_⟩) ?_; rotate_left 1; (focus (intro W hW; go_simp; first | done | with_reducible rfl)); try simp only [Act.put, List.setIfInBounds_toArray, List.set_cons_zero, List.set_cons_succ]) | (refine takeW 8 rfl (by decide +kernel) (by decide +kernel) (by decide +kernel) (fun _ _ _ h => h) (Or.inr ⟨by rfl, rfl⟩) ?_; try simp only [Act.put, List.setIfInBounds_toArray, List.set_cons_zero, List.set_cons_succ]) | skip); (first | (refine takeT 9 (v := ?_) rfl (by decide +kernel) (by decide +kernel) (by decide +kernel) (fun _ _ _ h => h) (by decide +kernel) (Or.inl ⟨by rfl, ?_⟩) ?_; rotate_left 1; (focus (intro W hW; have hcW := hW.at; (try dsimp only at hcW); go_simp; first | done | with_reducible rfl)); try simp only [Act.put, List.setIfInBounds_toArray, List.set_cons_zero, List.set_cons_succ]) | (refine takeW 9 (v := ?_) rfl (by decide +kernel) (by decide +kernel) (by decide +kernel) (fun _ _ _ h => h) (Or.inl ⟨by rfl, ?_⟩) ?_; rotate_left 1; (focus (intro W hW; go_simp; first | done | with_reducible rfl)); try simp only [Act.put, List.setIfInBounds_toArray, List.set_cons_zero, List.set_cons_succ]) | (refine takeW 9 rfl (by decide +kernel) (by decide +kernel) (by decide +kernel) (fun _ _ _ h => h) (Or.inr ⟨by rfl, rfl⟩) ?_; try simp only [Act.put, List.setIfInBounds_toArray, List.set_cons_zero, List.set_cons_succ]) | skip); (first | (refine takeT 10 (v := ?_) rfl (by decide +kernel) (by decide +kernel) (by decide +kernel) (fun _ _ _ h => h) (by decide +kernel) (Or.inl ⟨by rfl, ?_⟩) ?_; rotate_left 1; (focus (intro W hW; have hcW := hW.at; (try dsimp only at hcW); go_simp; first | done | with_reducible rfl)); try simp only [Act.put, List.setIfInBounds_toArray, List.set_cons_zero, List.set_cons_succ]) | (refine takeW 10 (v := ?_) rfl (by decide +kernel) (by decide +kernel) (by decide +kernel) (fun _ _ _ h => h) (Or.inl ⟨by rfl, ?_⟩) ?_; rotate_left 1; (focus (intro W hW; go_simp; first | done | with_reducible rfl)); try simp only [Act.put, List.setIfInBounds_toArray, List.set_cons_zero, List.set_cons_succ]) | (refine takeW 10 rfl (by decide +kernel) (by decide +kernel) (by decide +kernel) (fun _ _ _ h => h) (Or.inr ⟨by rfl, rfl⟩) ?_; try simp only [Act.put, List.setIfInBounds_toArray, List.set_cons_zero, List.set_cons_succ]) | skip); (first | (refine takeT 11 (v := ?_) rfl (by decide +kernel) (by decide +kernel) (by decide +kernel) (fun _ _ _ h => h) (by decide +kernel) (Or.inl ⟨by rfl, ?_⟩) ?_; rotate_left 1; (focus (intro W hW; have hcW := hW.at; (try dsimp only at hcW); go_simp; first | done | with_reducible rfl)); try simp only [Act.put, List.setIfInBounds_toArray, List.set_cons_zero, List.set_cons_succ]) | (refine takeW 11 (v := ?_) rfl (by decide +kernel) (by decide +kernel) (by decide +kernel) (fun _ _ _ h => h) (Or.inl ⟨by rfl, ?_⟩) ?_; rotate_left 1; (focus (intro W hW; go_simp; first | done | with_reducible rfl)); try simp only [Act.put, List.setIfInBounds_toArray, List.set_cons_zero, List.set_cons_succ]) | (refine takeW 11 rfl (by decide +kernel) (by decide +kernel) (by decide +kernel) (fun _ _ _ h => h) (Or.inr ⟨by rfl, rfl⟩) ?_; try simp only [Act.put, List.setIfInBounds_toArray, List.set_cons_zero, List.set_cons_succ]) | skip))
            refine stepTA [12, 13] (by decide +kernel) (by decide) ?_
            intro i hi
            rcases (by simpa using hi : i = 12 ∨ i = 13) with rfl | rfl
            · clear hi
              refine ⟨_, rfl, by rfl, ?_⟩
              intro K hK
              go_simp
              have bb := (Below.refl u2.heap.size u2).alloc (Nat.le_refl _) (.cells #[.slice none 0 0, .slice none 0 0, .slice none 0 0, .slice none 0 0] 67)
              have sm := smBlk (b1 := w.heap.size) (b2 := w.heap.size + 1) bb (by have := hb.out.size; have := HN7.out; have := hN2.out; omega) (by have := hb.out.size; have := HN7.out; have := hN2.out; omega)
              have l10 := Lib.hid hb.out.size
              have b10 := Lib.hid (alloc1 u2 (.cells #[.slice none 0 0, .slice none 0 0, .slice none 0 0, .slice none 0 0] 67))
              have n10 := Lib.hid (show ¬ F' u2.heap.size from fun hf => by have := ((rwA _ _ _).ge hw.out _ hf).2; omega)
              replace hw := Lib.hid (Asr.below hw.out bb hM.out)
              replace ra := Lib.hid (ra.out.keep (w' := u2.alloc (.cells #[.slice none 0 0, .slice none 0 0, .slice none 0 0, .slice none 0 0] 67)) fun k hk => bb.block k (Nat.lt_of_lt_of_le hk.2 hM.out))
              replace hb := Lib.hid (hb.out.trans (bb.mono hb.out.size))
              replace hM := Lib.hid (Nat.le_trans hM.out bb.size)
              refine hK _ _ (.inr sm) ?_
              clear hK K sm bb
              try simp only [Act.put, List.setIfInBounds_toArray, List.set_cons_zero, List.set_cons_succ]
              generalize u2.alloc (.cells #[.slice none 0 0, .slice none 0 0, .slice none 0 0, .slice none 0 0] 67) = u3 at b10 l10 hb n10 hw ra hM ⊢
              generalize u2.heap.size = g10 at b10 l10 hb n10 hw ra hM ⊢
              refine stepTA [13] (by decide +kernel) (by decide) ?_
              intro i hi
              obtain rfl : i = 13 := by simpa using hi
              clear hi
              refine ⟨_, rfl, by rfl, ?_⟩
              intro K hK
              go_simp
              have bb := (Below.refl u3.heap.size u3).alloc (Nat.le_refl _) pkZ
              have sm := smBlk (b1 := w.heap.size) (b2 := w.heap.size + 1) bb (by have := hb.out.size; have := HN7.out; have := hN2.out; omega) (by have := hb.out.size; have := HN7.out; have := hN2.out; omega)
              have l11 := Lib.hid hb.out.size
              have ne := Lib.hid (show g10 ≠ u3.heap.size from fun e => by have := block_lt b10.out; omega)
              replace b10 := Lib.hid ((bb.block _ (block_lt b10.out)).trans b10.out)
              have b11 := Lib.hid (alloc1 u3 pkZ)
              have n11 := Lib.hid (show ¬ F' u3.heap.size from fun hf => by have := ((rwA _ _ _).ge hw.out _ hf).2; omega)
              replace hw := Lib.hid (Asr.below hw.out bb hM.out)
              replace ra := Lib.hid (ra.out.keep (w' := u3.alloc pkZ) fun k hk => bb.block k (Nat.lt_of_lt_of_le hk.2 hM.out))
              replace hb := Lib.hid (hb.out.trans (bb.mono hb.out.size))
              replace hM := Lib.hid (Nat.le_trans hM.out bb.size)
              refine hK _ _ (.inr sm) ?_
              clear hK K sm bb
              try simp only [Act.put, List.setIfInBounds_toArray, List.set_cons_zero, List.set_cons_succ]
              generalize u3.alloc pkZ = u4 at b11 l11 hb ne b10 n11 hw ra hM ⊢
              generalize u3.heap.size = g11 at b11 l11 hb ne b10 n11 hw ra hM ⊢
              obtain ⟨Aa, ca, Af2, cf2, A2', c2', A3', c3', rfl, hw1, hw2, hw3, hw4, hw5, hw6⟩ := hw.out
              have hH := Lib.hid (hw3.rdl.mono (G := fun k => k ≠ g10 ∧ k ≠ g11) fun k hk => hk.elim (fun h => by have := l10.out; have := l11.out; have h1 : k < y.heap.size := h.1; omega) (fun h => ⟨fun e => n10.out (by rw [← e]; exact (hw6 k).2 (.inl h)), fun e => n11.out (by rw [← e]; exact (hw6 k).2 (.inl h))⟩))
              have hS := Lib.hid (hw4.rdl.mono (G := fun k => k ≠ g10 ∧ k ≠ g11) fun k hk => hk.elim (fun h => by have := l10.out; have := l11.out; have h1 : k < y.heap.size := h.1; omega) (fun h => ⟨fun e => n10.out (by rw [← e]; exact (hw6 k).2 (.inr h)), fun e => n11.out (by rw [← e]; exact (hw6 k).2 (.inr h))⟩))
              have hA := Lib.hid (ra.out.mono (G := fun k => k ≠ g10 ∧ k ≠ g11) fun k hk => by have := l10.out; have := l11.out; have h1 : k < y.heap.size := hk.1; omega)
              have ne2 := Lib.hid (show g10 ≠ g11 from ne.out)
              clear hw1 hw2 hw3 hw4 hw5 hw6 hw ra
              refine stepT 14 rfl (by decide +kernel) (by rfl) ?_
              intro K hK
              refine wp_storeB flatRw (.tmp 10) (.tmp 52) rfl g10 rfl _ rfl b10.out rfl rfl rfl ?_
              intro z1 k1 hg1 hs1
              refine hK _ _ (.inl (by decide)) ?_
              clear hK K
              try simp only [Act.put, List.setIfInBounds_toArray, List.set_cons_zero, List.set_cons_succ]
              have b11z := grown_block hg1 b11.out (fun e => ne2.out (by injection e with e; exact e.symm))
              replace hH := Lib.hid (hH.out.grown hg1 (fun k hk => hk.1) (by decide))
              replace hS := Lib.hid (hS.out.grown hg1 (fun k hk => hk.1) (by decide))
              replace hA := Lib.hid (hA.out.grown hg1 fun k hk => hk.1)
              replace hb := Lib.hid (below_grown hb.out hg1 hb.out.size l10.out)
              have K1 := Lib.hid k1
              clear k1 hg1 hs1
              refine stepT 15 rfl (by decide +kernel) (by rfl) ?_
              intro K hK
              refine wp_storeB flatPk (.tmp 11) (.tmp 53) rfl g11 rfl _ rfl b11z rfl rfl rfl ?_
              intro z2 k2 hg2 hs2
              refine hK _ _ (.inl (by decide)) ?_
              clear hK K
              try simp only [Act.put, List.setIfInBounds_toArray, List.set_cons_zero, List.set_cons_succ]
              ((first | (refine takeT 16 (v := ?_) rfl (by decide +kernel) (by decide +kernel) (by decide +kernel) (fun _ _ _ h => h) (by decide +kernel) (Or.inl ⟨by rfl, ?_⟩) ?_; rotate_left 1; (focus (intro W hW; have hcW := hW.at; (try dsimp only at hcW); go_simp; first | done | with_reducible rfl)); try simp only [Act.put, List.setIfInBounds_toArray, List.set_cons_zero, List.set_cons_succ]) | (refine takeW 16 (v := ?_) rfl (by decide +kernel) (by decide +kernel) (by decide +kernel) (fun _ _ _ h => h) (Or.inl ⟨by rfl, ?_⟩) ?_; rotate_left 1; (focus (intro W hW; go_simp; first | done | with_reducible rfl)); try simp only [Act.put, List.setIfInBounds_toArray, List.set_cons_zero, List.set_cons_succ]) | (refine takeW 16 rfl (by decide +kernel) (by decide +kernel) (by decide +kernel) (fun _ _ _ h => h) (Or.inr ⟨by rfl, rfl⟩) ?_; try simp only [Act.put, List.setIfInBounds_toArray, List.set_cons_zero, List.set_cons_succ]) | skip))
              refine doneT (by kernel_rfl) ?_
              refine ⟨g10, g11, Aa, ca, Af2, cf2, A2', c2', A3', c3', A', c', _, _, _, _, _, _, _, _, _, _, _, _, rfl, grown_block hg2 K1.out (fun e => ne2.out (by injection e)), k2, ?_⟩
              exact ⟨(hA.out.grown hg2 fun k hk => hk.2).mono fun _ _ => trivial, (hH.out.grown hg2 (fun k hk => hk.2) (by decide)).mono fun _ _ => trivial, (hS.out.grown hg2 (fun k hk => hk.2) (by decide)).mono fun _ _ => trivial, below_grown hb.out hg2 hb.out.size l11.out⟩
            · clear hi
              refine ⟨_, rfl, by rfl, ?_⟩
              intro K hK
              go_simp
              have bb := (Below.refl u2.heap.size u2).alloc (Nat.le_refl _) pkZ
              have sm := smBlk (b1 := w.heap.size) (b2 := w.heap.size + 1) bb (by have := hb.out.size; have := HN7.out; have := hN2.out; omega) (by have := hb.out.size; have := HN7.out; have := hN2.out; omega)
              have l11 := Lib.hid hb.out.size
              have b11 := Lib.hid (alloc1 u2 pkZ)
              have n11 := Lib.hid (show ¬ F' u2.heap.size from fun hf => by have := ((rwA _ _ _).ge hw.out _ hf).2; omega)
              replace hw := Lib.hid (Asr.below hw.out bb hM.out)
              replace ra := Lib.hid (ra.out.keep (w' := u2.alloc pkZ) fun k hk => bb.block k (Nat.lt_of_lt_of_le hk.2 hM.out))
              replace hb := Lib.hid (hb.out.trans (bb.mono hb.out.size))
              replace hM := Lib.hid (Nat.le_trans hM.out bb.size)
              refine hK _ _ (.inr sm) ?_
              clear hK K sm bb
              try simp only [Act.put, List.setIfInBounds_toArray, List.set_cons_zero, List.set_cons_succ]
              generalize u2.alloc pkZ = u5 at b11 l11 hb n11 hw ra hM ⊢
              generalize u2.heap.size = g11 at b11 l11 hb n11 hw ra hM ⊢
              refine stepTA [12] (by decide +kernel) (by decide) ?_
              intro i hi
              obtain rfl : i = 12 := by simpa using hi
              clear hi
              refine ⟨_, rfl, by rfl, ?_⟩
              intro K hK
              go_simp
              have bb := (Below.refl u5.heap.size u5).alloc (Nat.le_refl _) (.cells #[.slice none 0 0, .slice none 0 0, .slice none 0 0, .slice none 0 0] 67)
              have sm := smBlk (b1 := w.heap.size) (b2 := w.heap.size + 1) bb (by have := hb.out.size; have := HN7.out; have := hN2.out; omega) (by have := hb.out.size; have := HN7.out; have := hN2.out; omega)
              have l10 := Lib.hid hb.out.size
              have ne := Lib.hid (show g11 ≠ u5.heap.size from fun e => by have := block_lt b11.out; omega)
              replace b11 := Lib.hid ((bb.block _ (block_lt b11.out)).trans b11.out)
              have b10 := Lib.hid (alloc1 u5 (.cells #[.slice none 0 0, .slice none 0 0, .slice none 0 0, .slice none 0 0] 67))
              have n10 := Lib.hid (show ¬ F' u5.heap.size from fun hf => by have := ((rwA _ _ _).ge hw.out _ hf).2; omega)
              replace hw := Lib.hid (Asr.below hw.out bb hM.out)
              replace ra := Lib.hid (ra.out.keep (w' := u5.alloc (.cells #[.slice none 0 0, .slice none 0 0, .slice none 0 0, .slice none 0 0] 67)) fun k hk => bb.block k (Nat.lt_of_lt_of_le hk.2 hM.out))
              replace hb := Lib.hid (hb.out.trans (bb.mono hb.out.size))
              replace hM := Lib.hid (Nat.le_trans hM.out bb.size)
              refine hK _ _ (.inr sm) ?_
              clear hK K sm bb
              try simp only [Act.put, List.setIfInBounds_toArray, List.set_cons_zero, List.set_cons_succ]
              generalize u5.alloc (.cells #[.slice none 0 0, .slice none 0 0, .slice none 0 0, .slice none 0 0] 67) = u6 at b10 l10 hb ne b11 n10 hw ra hM ⊢
              generalize u5.heap.size = g10 at b10 l10 hb ne b11 n10 hw ra hM ⊢
              obtain ⟨Aa, ca, Af2, cf2, A2', c2', A3', c3', rfl, hw1, hw2, hw3, hw4, hw5, hw6⟩ := hw.out
              have hH := Lib.hid (hw3.rdl.mono (G := fun k => k ≠ g10 ∧ k ≠ g11) fun k hk => hk.elim (fun h => by have := l10.out; have := l11.out; have h1 : k < y.heap.size := h.1; omega) (fun h => ⟨fun e => n10.out (by rw [← e]; exact (hw6 k).2 (.inl h)), fun e => n11.out (by rw [← e]; exact (hw6 k).2 (.inl h))⟩))
              have hS := Lib.hid (hw4.rdl.mono (G := fun k => k ≠ g10 ∧ k ≠ g11) fun k hk => hk.elim (fun h => by have := l10.out; have := l11.out; have h1 : k < y.heap.size := h.1; omega) (fun h => ⟨fun e => n10.out (by rw [← e]; exact (hw6 k).2 (.inr h)), fun e => n11.out (by rw [← e]; exact (hw6 k).2 (.inr h))⟩))
              have hA := Lib.hid (ra.out.mono (G := fun k => k ≠ g10 ∧ k ≠ g11) fun k hk => by have := l10.out; have := l11.out; have h1 : k < y.heap.size := hk.1; omega)
              have ne2 := Lib.hid (show g10 ≠ g11 from (fun e => ne.out e.symm))
              clear hw1 hw2 hw3 hw4 hw5 hw6 hw ra
              refine stepT 14 rfl (by decide +kernel) (by rfl) ?_
              intro K hK
              refine wp_storeB flatRw (.tmp 10) (.tmp 52) rfl g10 rfl _ rfl b10.out rfl rfl rfl ?_
              intro z1 k1 hg1 hs1
              refine hK _ _ (.inl (by decide)) ?_
              clear hK K
              try simp only [Act.put, List.setIfInBounds_toArray, List.set_cons_zero, List.set_cons_succ]
              have b11z := grown_block hg1 b11.out (fun e => ne2.out (by injection e with e; exact e.symm))
              replace hH := Lib.hid (hH.out.grown hg1 (fun k hk => hk.1) (by decide))
              replace hS := Lib.hid (hS.out.grown hg1 (fun k hk => hk.1) (by decide))
              replace hA := Lib.hid (hA.out.grown hg1 fun k hk => hk.1)
              replace hb := Lib.hid (below_grown hb.out hg1 hb.out.size l10.out)
              have K1 := Lib.hid k1
              clear k1 hg1 hs1
              refine stepT 15 rfl (by decide +kernel) (by rfl) ?_
              intro K hK
              refine wp_storeB flatPk (.tmp 11) (.tmp 53) rfl g11 rfl _ rfl b11z rfl rfl rfl ?_
              intro z2 k2 hg2 hs2
              refine hK _ _ (.inl (by decide)) ?_
              clear hK K
              try simp only [Act.put, List.setIfInBounds_toArray, List.set_cons_zero, List.set_cons_succ]
              ((first | (refine takeT 16 (v := ?_) rfl (by decide +kernel) (by decide +kernel) (by decide +kernel) (fun _ _ _ h => h) (by decide +kernel) (Or.inl ⟨by rfl, ?_⟩) ?_; rotate_left 1; (focus (intro W hW; have hcW := hW.at; (try dsimp only at hcW); go_simp; first | done | with_reducible rfl)); try simp only [Act.put, List.setIfInBounds_toArray, List.set_cons_zero, List.set_cons_succ]) | (refine takeW 16 (v := ?_) rfl (by decide +kernel) (by decide +kernel) (by decide +kernel) (fun _ _ _ h => h) (Or.inl ⟨by rfl, ?_⟩) ?_; rotate_left 1; (focus (intro W hW; go_simp; first | done | with_reducible rfl)); try simp only [Act.put, List.setIfInBounds_toArray, List.set_cons_zero, List.set_cons_succ]) | (refine takeW 16 rfl (by decide +kernel) (by decide +kernel) (by decide +kernel) (fun _ _ _ h => h) (Or.inr ⟨by rfl, rfl⟩) ?_; try simp only [Act.put, List.setIfInBounds_toArray, List.set_cons_zero, List.set_cons_succ]) | skip))
              refine doneT (by kernel_rfl) ?_
              refine ⟨g10, g11, Aa, ca, Af2, cf2, A2', c2', A3', c3', A', c', _, _, _, _, _, _, _, _, _, _, _, _, rfl, grown_block hg2 K1.out (fun e => ne2.out (by injection e)), k2, ?_⟩
              exact ⟨(hA.out.grown hg2 fun k hk => hk.2).mono fun _ _ => trivial, (hH.out.grown hg2 (fun k hk => hk.2) (by decide)).mono fun _ _ => trivial, (hS.out.grown hg2 (fun k hk => hk.2) (by decide)).mono fun _ _ => trivial, below_grown hb.out hg2 hb.out.size l11.out⟩
          · clear hi
            refine ⟨_, rfl, by rfl, ?_⟩
            intro K hK
            go_simp
            have bb := (Below.refl u1.heap.size u1).alloc (Nat.le_refl _) (.cells #[.slice none 0 0, .slice none 0 0, .slice none 0 0, .slice none 0 0] 67)
            have sm := smBlk (b1 := w.heap.size) (b2 := w.heap.size + 1) bb (by have := hb.out.size; have := HN7.out; have := hN2.out; omega) (by have := hb.out.size; have := HN7.out; have := hN2.out; omega)
            have l10 := Lib.hid hb.out.size
            have b10 := Lib.hid (alloc1 u1 (.cells #[.slice none 0 0, .slice none 0 0, .slice none 0 0, .slice none 0 0] 67))
            replace hf := Lib.hid (hf.out.keep (w' := u1.alloc (.cells #[.slice none 0 0, .slice none 0 0, .slice none 0 0, .slice none 0 0] 67)) fun k hk => bb.block k (Nat.lt_of_lt_of_le hk hM.out))
            replace hb := Lib.hid (hb.out.trans (bb.mono hb.out.size))
            replace hM := Lib.hid (Nat.le_trans hM.out bb.size)
            refine hK _ _ (.inr sm) ?_
            clear hK K sm bb
            try simp only [Act.put, List.setIfInBounds_toArray, List.set_cons_zero, List.set_cons_succ]
            generalize u1.alloc (.cells #[.slice none 0 0, .slice none 0 0, .slice none 0 0, .slice none 0 0] 67) = u7 at b10 l10 hb hf hM ⊢
            generalize u1.heap.size = g10 at b10 l10 hb hf hM ⊢
            refine stepTA [7, 13] (by decide +kernel) (by decide) ?_
            intro i hi
            rcases (by simpa using hi : i = 7 ∨ i = 13) with rfl | rfl
            · clear hi
              refine ⟨_, rfl, by rfl, ?_⟩
              intro K hK
              go_simp
              refine (KRS.out u7 M hM.out hyM.out hb.out Af cf hf.out).mono ?_
              rintro e u8 ⟨v', F', A', c', rfl, ra, hw, hm⟩
              have bb := hm.belowN (N := u7.heap.size) (fun k hk => hk.elim) (Nat.le_refl _)
              have sm := smBlk (b1 := w.heap.size) (b2 := w.heap.size + 1) bb (by have := hb.out.size; have := HN7.out; have := hN2.out; omega) (by have := hb.out.size; have := HN7.out; have := hN2.out; omega)
              have n10 := Lib.hid (show ¬ F' g10 from fun hf => (hm.new _ hf).elim (fun h => h) (fun h => by have := block_lt b10.out; omega))
              replace b10 := Lib.hid ((bb.block _ (block_lt b10.out)).trans b10.out)
              replace hb := Lib.hid (hb.out.trans (bb.mono hb.out.size))
              replace hM := Lib.hid (Nat.le_trans hM.out bb.size)
              replace ra := Lib.hid ra
              replace hw := Lib.hid hw
              refine hK _ _ (.inr sm) ?_
              clear hK K sm bb hm hf
              try simp only [Act.put, List.setIfInBounds_toArray, List.set_cons_zero, List.set_cons_succ]
              ((first | (refine takeT 8 (v := ?_) rfl (by decide +kernel) (by decide +kernel) (by decide +kernel) (fun _ _ _ h => h) (by decide +kernel) (Or.inl ⟨by rfl, ?_⟩) ?_; rotate_left 1; (focus (intro W hW; have hcW := hW.at; (try dsimp only at hcW); go_simp; first | done | with_reducible rfl)); try simp only [Act.put, List.setIfInBounds_toArray, List.set_cons_zero, List.set_cons_succ]) | (refine takeW 8 (v := ?_) rfl (by decide +kernel) (by decide +kernel) (by decide +kernel) (fun _ _ _ h => h) (Or.inl ⟨by rfl, ?_⟩) ?_; rotate_left 1; (focus (intro W hW; go_simp; first | done | with_reducible rfl)); try simp only [Act.put, List.setIfInBounds_toArray, List.set_cons_zero, List.set_cons_succ]) | (refine takeW 8 rfl (by decide +kernel) (by decide +kernel) (by decide +kernel) (fun _ _ _ h => h) (Or.inr ⟨by rfl, rfl⟩) ?_; try simp only [Act.put, List.setIfInBounds_toArray, List.set_cons_zero, List.set_cons_succ]) | skip); (first | (refine takeT 9 (v := ?_) rfl (by decide +kernel) (by decide +kernel) (by decide +kernel) (fun _ _ _ h => h) (by decide +kernel) (Or.inl ⟨by rfl, ?_⟩) ?_; rotate_left 1; (focus (intro W hW; have hcW := hW.at; (try dsimp only at hcW); go_simp; first | done | with_reducible rfl)); try simp only [Act.put, List.setIfInBounds_toArray, List.set_cons_zero, List.set_cons_succ]) | (refine takeW 9 (v := ?_) rfl (by decide +kernel) (by decide +kernel) (by decide +kernel) (fun _ _ _ h => h) (Or.inl ⟨by rfl, ?_⟩) ?_; rotate_left 1; (focus (intro W hW; go_simp; first | done | with_reducible rfl)); try simp only [Act.put, List.setIfInBounds_toArray, List.set_cons_zero, List.set_cons_succ]) | (refine takeW 9 rfl (by decide +kernel) (by decide +kernel) (by decide +kernel) (fun _ _ _ h => h) (Or.inr ⟨by rfl, rfl⟩) ?_; try simp only [Act.put, List.setIfInBounds_toArray, List.set_cons_zero, List.set_cons_succ]) | skip); (first | (refine takeT 10 (v := ?_) rfl (by decide +kernel) (by decide +kernel) (by decide +kernel) (fun _ _ _ h => h) (by decide +kernel) (Or.inl ⟨by rfl, ?_⟩) ?_; rotate_left 1; (focus (intro W hW; have hcW := hW.at; (try dsimp only at hcW); go_simp; first | done | with_reducible rfl)); try simp only [Act.put, List.setIfInBounds_toArray, List.set_cons_zero, List.set_cons_succ]) | (refine takeW 10 (v := ?_) rfl (by decide +kernel) (by decide +kernel) (by decide +kernel) (fun _ _ _ h => h) (Or.inl ⟨by rfl, ?_⟩) ?_; rotate_left 1; (focus (intro W hW; go_simp; first | done | with_reducible rfl)); try simp only [Act.put, List.setIfInBounds_toArray, List.set_cons_zero, List.set_cons_succ]) | (refine takeW 10 rfl (by decide +kernel) (by decide +kernel) (by decide +kernel) (fun _ _ _ h => h) (Or.inr ⟨by rfl, rfl⟩) ?_; try simp only [Act.put, List.setIfInBounds_toArray, List.set_cons_zero, List.set_cons_succ]) | skip); (first | (refine takeT 11 (v := ?_) rfl (by decide +kernel) (by decide +kernel) (by decide +kernel) (fun _ _ _ h => h) (by decide +kernel) (Or.inl ⟨by rfl, ?_⟩) ?_; rotate_left 1; (focus (intro W hW; have hcW := hW.at; (try dsimp only at hcW); go_simp; first | done | with_reducible rfl)); try simp only [Act.put, List.setIfInBounds_toArray, List.set_cons_zero, List.set_cons_succ]) | (refine takeW 11 (v := ?_) rfl (by decide +kernel) (by decide +kernel) (by decide +kernel) (fun _ _ _ h => h) (Or.inl ⟨by rfl, ?_⟩) ?_; rotate_left 1; (focus (intro W hW; go_simp; first | done | with_reducible rfl)); try simp only [Act.put, List.setIfInBounds_toArray, List.set_cons_zero, List.set_cons_succ]) | (refine takeW 11 rfl (by decide +kernel) (by decide +kernel) (by decide +kernel) (fun _ _ _ h => h) (Or.inr ⟨by rfl, rfl⟩) ?_; try simp only [Act.put, List.setIfInBounds_toArray, List.set_cons_zero, List.set_cons_succ]) | skip))
              refine stepTA [13] (by decide +kernel) (by decide) ?_
              intro i hi
              obtain rfl : i = 13 := by simpa using hi
              clear hi
              refine ⟨_, rfl, by rfl, ?_⟩
              intro K hK
              go_simp
              have bb := (Below.refl u8.heap.size u8).alloc (Nat.le_refl _) pkZ
              have sm := smBlk (b1 := w.heap.size) (b2 := w.heap.size + 1) bb (by have := hb.out.size; have := HN7.out; have := hN2.out; omega) (by have := hb.out.size; have := HN7.out; have := hN2.out; omega)
              have l11 := Lib.hid hb.out.size
              have ne := Lib.hid (show g10 ≠ u8.heap.size from fun e => by have := block_lt b10.out; omega)
              replace b10 := Lib.hid ((bb.block _ (block_lt b10.out)).trans b10.out)
              have b11 := Lib.hid (alloc1 u8 pkZ)
              have n11 := Lib.hid (show ¬ F' u8.heap.size from fun hf => by have := ((rwA _ _ _).ge hw.out _ hf).2; omega)
              replace hw := Lib.hid (Asr.below hw.out bb hM.out)
              replace ra := Lib.hid (ra.out.keep (w' := u8.alloc pkZ) fun k hk => bb.block k (Nat.lt_of_lt_of_le hk.2 hM.out))
              replace hb := Lib.hid (hb.out.trans (bb.mono hb.out.size))
              replace hM := Lib.hid (Nat.le_trans hM.out bb.size)
              refine hK _ _ (.inr sm) ?_
              clear hK K sm bb
              try simp only [Act.put, List.setIfInBounds_toArray, List.set_cons_zero, List.set_cons_succ]
              generalize u8.alloc pkZ = u9 at b11 l11 hb ne b10 n11 hw ra hM ⊢
              generalize u8.heap.size = g11 at b11 l11 hb ne b10 n11 hw ra hM ⊢
              obtain ⟨Aa, ca, Af2, cf2, A2', c2', A3', c3', rfl, hw1, hw2, hw3, hw4, hw5, hw6⟩ := hw.out
              have hH := Lib.hid (hw3.rdl.mono (G := fun k => k ≠ g10 ∧ k ≠ g11) fun k hk => hk.elim (fun h => by have := l10.out; have := l11.out; have h1 : k < y.heap.size := h.1; omega) (fun h => ⟨fun e => n10.out (by rw [← e]; exact (hw6 k).2 (.inl h)), fun e => n11.out (by rw [← e]; exact (hw6 k).2 (.inl h))⟩))
              have hS := Lib.hid (hw4.rdl.mono (G := fun k => k ≠ g10 ∧ k ≠ g11) fun k hk => hk.elim (fun h => by have := l10.out; have := l11.out; have h1 : k < y.heap.size := h.1; omega) (fun h => ⟨fun e => n10.out (by rw [← e]; exact (hw6 k).2 (.inr h)), fun e => n11.out (by rw [← e]; exact (hw6 k).2 (.inr h))⟩))
              have hA := Lib.hid (ra.out.mono (G := fun k => k ≠ g10 ∧ k ≠ g11) fun k hk => by have := l10.out; have := l11.out; have h1 : k < y.heap.size := hk.1; omega)
              have ne2 := Lib.hid (show g10 ≠ g11 from ne.out)
              clear hw1 hw2 hw3 hw4 hw5 hw6 hw ra
              refine stepT 14 rfl (by decide +kernel) (by rfl) ?_
              intro K hK
              refine wp_storeB flatRw (.tmp 10) (.tmp 52) rfl g10 rfl _ rfl b10.out rfl rfl rfl ?_
              intro z1 k1 hg1 hs1
              refine hK _ _ (.inl (by decide)) ?_
              clear hK K
              try simp only [Act.put, List.setIfInBounds_toArray, List.set_cons_zero, List.set_cons_succ]
              have b11z := grown_block hg1 b11.out (fun e => ne2.out (by injection e with e; exact e.symm))
              replace hH := Lib.hid (hH.out.grown hg1 (fun k hk => hk.1) (by decide))
              replace hS := Lib.hid (hS.out.grown hg1 (fun k hk => hk.1) (by decide))
              replace hA := Lib.hid (hA.out.grown hg1 fun k hk => hk.1)
              replace hb := Lib.hid (below_grown hb.out hg1 hb.out.size l10.out)
              have K1 := Lib.hid k1
              clear k1 hg1 hs1
              refine stepT 15 rfl (by decide +kernel) (by rfl) ?_
              intro K hK
              refine wp_storeB flatPk (.tmp 11) (.tmp 53) rfl g11 rfl _ rfl b11z rfl rfl rfl ?_
              intro z2 k2 hg2 hs2
              refine hK _ _ (.inl (by decide)) ?_
              clear hK K
              try simp only [Act.put, List.setIfInBounds_toArray, List.set_cons_zero, List.set_cons_succ]
              ((first | (refine takeT 16 (v := ?_) rfl (by decide +kernel) (by decide +kernel) (by decide +kernel) (fun _ _ _ h => h) (by decide +kernel) (Or.inl ⟨by rfl, ?_⟩) ?_; rotate_left 1; (focus (intro W hW; have hcW := hW.at; (try dsimp only at hcW); go_simp; first | done | with_reducible rfl)); try simp only [Act.put, List.setIfInBounds_toArray, List.set_cons_zero, List.set_cons_succ]) | (refine takeW 16 (v := ?_) rfl (by decide +kernel) (by decide +kernel) (by decide +kernel) (fun _ _ _ h => h) (Or.inl ⟨by rfl, ?_⟩) ?_; rotate_left 1; (focus (intro W hW; go_simp; first | done | with_reducible rfl)); try simp only [Act.put, List.setIfInBounds_toArray, List.set_cons_zero, List.set_cons_succ]) | (refine takeW 16 rfl (by decide +kernel) (by decide +kernel) (by decide +kernel) (fun _ _ _ h => h) (Or.inr ⟨by rfl, rfl⟩) ?_; try simp only [Act.put, List.setIfInBounds_toArray, List.set_cons_zero, List.set_cons_succ]) | skip))
              refine doneT (by kernel_rfl) ?_
              refine ⟨g10, g11, Aa, ca, Af2, cf2, A2', c2', A3', c3', A', c', _, _, _, _, _, _, _, _, _, _, _, _, rfl, grown_block hg2 K1.out (fun e => ne2.out (by injection e)), k2, ?_⟩
              exact ⟨(hA.out.grown hg2 fun k hk => hk.2).mono fun _ _ => trivial, (hH.out.grown hg2 (fun k hk => hk.2) (by decide)).mono fun _ _ => trivial, (hS.out.grown hg2 (fun k hk => hk.2) (by decide)).mono fun _ _ => trivial, below_grown hb.out hg2 hb.out.size l11.out⟩
            · clear hi
              refine ⟨_, rfl, by rfl, ?_⟩
              intro K hK
              go_simp
              have bb := (Below.refl u7.heap.size u7).alloc (Nat.le_refl _) pkZ
              have sm := smBlk (b1 := w.heap.size) (b2 := w.heap.size + 1) bb (by have := hb.out.size; have := HN7.out; have := hN2.out; omega) (by have := hb.out.size; have := HN7.out; have := hN2.out; omega)
              have l11 := Lib.hid hb.out.size
              have ne := Lib.hid (show g10 ≠ u7.heap.size from fun e => by have := block_lt b10.out; omega)
              replace b10 := Lib.hid ((bb.block _ (block_lt b10.out)).trans b10.out)
              have b11 := Lib.hid (alloc1 u7 pkZ)
              replace hf := Lib.hid (hf.out.keep (w' := u7.alloc pkZ) fun k hk => bb.block k (Nat.lt_of_lt_of_le hk hM.out))
              replace hb := Lib.hid (hb.out.trans (bb.mono hb.out.size))
              replace hM := Lib.hid (Nat.le_trans hM.out bb.size)
              refine hK _ _ (.inr sm) ?_
              clear hK K sm bb
              try simp only [Act.put, List.setIfInBounds_toArray, List.set_cons_zero, List.set_cons_succ]
              generalize u7.alloc pkZ = u10 at b11 l11 hb ne b10 hf hM ⊢
              generalize u7.heap.size = g11 at b11 l11 hb ne b10 hf hM ⊢
              refine stepTA [7] (by decide +kernel) (by decide) ?_
              intro i hi
              obtain rfl : i = 7 := by simpa using hi
              clear hi
              refine ⟨_, rfl, by rfl, ?_⟩
              intro K hK
              go_simp
              refine (KRS.out u10 M hM.out hyM.out hb.out Af cf hf.out).mono ?_
              rintro e u11 ⟨v', F', A', c', rfl, ra, hw, hm⟩
              have bb := hm.belowN (N := u10.heap.size) (fun k hk => hk.elim) (Nat.le_refl _)
              have sm := smBlk (b1 := w.heap.size) (b2 := w.heap.size + 1) bb (by have := hb.out.size; have := HN7.out; have := hN2.out; omega) (by have := hb.out.size; have := HN7.out; have := hN2.out; omega)
              have n10 := Lib.hid (show ¬ F' g10 from fun hf => (hm.new _ hf).elim (fun h => h) (fun h => by have := block_lt b10.out; omega))
              replace b10 := Lib.hid ((bb.block _ (block_lt b10.out)).trans b10.out)
              have n11 := Lib.hid (show ¬ F' g11 from fun hf => (hm.new _ hf).elim (fun h => h) (fun h => by have := block_lt b11.out; omega))
              replace b11 := Lib.hid ((bb.block _ (block_lt b11.out)).trans b11.out)
              replace hb := Lib.hid (hb.out.trans (bb.mono hb.out.size))
              replace hM := Lib.hid (Nat.le_trans hM.out bb.size)
              replace ra := Lib.hid ra
              replace hw := Lib.hid hw
              refine hK _ _ (.inr sm) ?_
              clear hK K sm bb hm hf
              try simp only [Act.put, List.setIfInBounds_toArray, List.set_cons_zero, List.set_cons_succ]
              ((first | (refine takeT 8 (v := ?_) rfl (by decide +kernel) (by decide +kernel) (by decide +kernel) (fun _ _ _ h => h) (by decide +kernel) (Or.inl ⟨by rfl, ?_⟩) ?_; rotate_left 1; (focus (intro W hW; have hcW := hW.at; (try dsimp only at hcW); go_simp; first | done | with_reducible rfl)); try simp only [Act.put, List.setIfInBounds_toArray, List.set_cons_zero, List.set_cons_succ]) | (refine takeW 8 (v := ?_) rfl (by decide +kernel) (by decide +kernel) (by decide +kernel) (fun _ _ _ h => h) (Or.inl ⟨by rfl, ?_⟩) ?_; rotate_left 1; (focus (intro W hW; go_simp; first | done | with_reducible rfl)); try simp only [Act.put, List.setIfInBounds_toArray, List.set_cons_zero, List.set_cons_succ]) | (refine takeW 8 rfl (by decide +kernel) (by decide +kernel) (by decide +kernel) (fun _ _ _ h => h) (Or.inr ⟨by rfl, rfl⟩) ?_; try simp only [Act.put, List.setIfInBounds_toArray, List.set_cons_zero, List.set_cons_succ]) | skip); (first | (refine takeT 9 (v := ?_) rfl (by decide +kernel) (by decide +kernel) (by decide +kernel) (fun _ _ _ h => h) (by decide +kernel) (Or.inl ⟨by rfl, ?_⟩) ?_; rotate_left 1; (focus (intro W hW; have hcW := hW.at; (try dsimp only at hcW); go_simp; first | done | with_reducible rfl)); try simp only [Act.put, List.setIfInBounds_toArray, List.set_cons_zero, List.set_cons_succ]) | (refine takeW 9 (v := ?_) rfl (by decide +kernel) (by decide +kernel) (by decide +kernel) (fun _ _ _ h => h) (Or.inl ⟨by rfl, ?_⟩) ?_; rotate_left 1; (focus (intro W hW; go_simp; first | done | with_reducible rfl)); try simp only [Act.put, List.setIfInBounds_toArray, List.set_cons_zero, List.set_cons_succ]) | (refine takeW 9 rfl (by decide +kernel) (by decide +kernel) (by decide +kernel) (fun _ _ _ h => h) (Or.inr ⟨by rfl, rfl⟩) ?_; try simp only [Act.put, List.setIfInBounds_toArray, List.set_cons_zero, List.set_cons_succ]) | skip); (first | (refine takeT 10 (v := ?_) rfl (by decide +kernel) (by decide +kernel) (by decide +kernel) (fun _ _ _ h => h) (by decide +kernel) (Or.inl ⟨by rfl, ?_⟩) ?_; rotate_left 1; (focus (intro W hW; have hcW := hW.at; (try dsimp only at hcW); go_simp; first | done | with_reducible rfl)); try simp only [Act.put, List.setIfInBounds_toArray, List.set_cons_zero, List.set_cons_succ]) | (refine takeW 10 (v := ?_) rfl (by decide +kernel) (by decide +kernel) (by decide +kernel) (fun _ _ _ h => h) (Or.inl ⟨by rfl, ?_⟩) ?_; rotate_left 1; (focus (intro W hW; go_simp; first | done | with_reducible rfl)); try simp only [Act.put, List.setIfInBounds_toArray, List.set_cons_zero, List.set_cons_succ]) | (refine takeW 10 rfl (by decide +kernel) (by decide +kernel) (by decide +kernel) (fun _ _ _ h => h) (Or.inr ⟨by rfl, rfl⟩) ?_; try simp only [Act.put, List.setIfInBounds_toArray, List.set_cons_zero, List.set_cons_succ]) | skip); (first | (refine takeT 11 (v := ?_) rfl (by decide +kernel) (by decide +kernel) (by decide +kernel) (fun _ _ _ h => h) (by decide +kernel) (Or.inl ⟨by rfl, ?_⟩) ?_; rotate_left 1; (focus (intro W hW; have hcW := hW.at; (try dsimp only at hcW); go_simp; first | done | with_reducible rfl)); try simp only [Act.put, List.setIfInBounds_toArray, List.set_cons_zero, List.set_cons_succ]) | (refine takeW 11 (v := ?_) rfl (by decide +kernel) (by decide +kernel) (by decide +kernel) (fun _ _ _ h => h) (Or.inl ⟨by rfl, ?_⟩) ?_; rotate_left 1; (focus (intro W hW; go_simp; first | done | with_reducible rfl)); try simp only [Act.put, List.setIfInBounds_toArray, List.set_cons_zero, List.set_cons_succ]) | (refine takeW 11 rfl (by decide +kernel) (by decide +kernel) (by decide +kernel) (fun _ _ _ h => h) (Or.inr ⟨by rfl, rfl⟩) ?_; try simp only [Act.put, List.setIfInBounds_toArray, List.set_cons_zero, List.set_cons_succ]) | skip))
              obtain ⟨Aa, ca, Af2, cf2, A2', c2', A3', c3', rfl, hw1, hw2, hw3, hw4, hw5, hw6⟩ := hw.out
              have hH := Lib.hid (hw3.rdl.mono (G := fun k => k ≠ g10 ∧ k ≠ g11) fun k hk => hk.elim (fun h => by have := l10.out; have := l11.out; have h1 : k < y.heap.size := h.1; omega) (fun h => ⟨fun e => n10.out (by rw [← e]; exact (hw6 k).2 (.inl h)), fun e => n11.out (by rw [← e]; exact (hw6 k).2 (.inl h))⟩))
              have hS := Lib.hid (hw4.rdl.mono (G := fun k => k ≠ g10 ∧ k ≠ g11) fun k hk => hk.elim (fun h => by have := l10.out; have := l11.out; have h1 : k < y.heap.size := h.1; omega) (fun h => ⟨fun e => n10.out (by rw [← e]; exact (hw6 k).2 (.inr h)), fun e => n11.out (by rw [← e]; exact (hw6 k).2 (.inr h))⟩))
              have hA := Lib.hid (ra.out.mono (G := fun k => k ≠ g10 ∧ k ≠ g11) fun k hk => by have := l10.out; have := l11.out; have h1 : k < y.heap.size := hk.1; omega)
              have ne2 := Lib.hid (show g10 ≠ g11 from ne.out)
              clear hw1 hw2 hw3 hw4 hw5 hw6 hw ra
              refine stepT 14 rfl (by decide +kernel) (by rfl) ?_
              intro K hK
              refine wp_storeB flatRw (.tmp 10) (.tmp 52) rfl g10 rfl _ rfl b10.out rfl rfl rfl ?_
              intro z1 k1 hg1 hs1
              refine hK _ _ (.inl (by decide)) ?_
              clear hK K
              try simp only [Act.put, List.setIfInBounds_toArray, List.set_cons_zero, List.set_cons_succ]
              have b11z := grown_block hg1 b11.out (fun e => ne2.out (by injection e with e; exact e.symm))
              replace hH := Lib.hid (hH.out.grown hg1 (fun k hk => hk.1) (by decide))
              replace hS := Lib.hid (hS.out.grown hg1 (fun k hk => hk.1) (by decide))
              replace hA := Lib.hid (hA.out.grown hg1 fun k hk => hk.1)
              replace hb := Lib.hid (below_grown hb.out hg1 hb.out.size l10.out)
              have K1 := Lib.hid k1
              clear k1 hg1 hs1
              refine stepT 15 rfl (by decide +kernel) (by rfl) ?_
              intro K hK
              refine wp_storeB flatPk (.tmp 11) (.tmp 53) rfl g11 rfl _ rfl b11z rfl rfl rfl ?_
              intro z2 k2 hg2 hs2
              refine hK _ _ (.inl (by decide)) ?_
              clear hK K
              try simp only [Act.put, List.setIfInBounds_toArray, List.set_cons_zero, List.set_cons_succ]
              ((first | (refine takeT 16 (v := ?_) rfl (by decide +kernel) (by decide +kernel) (by decide +kernel) (fun _ _ _ h => h) (by decide +kernel) (Or.inl ⟨by rfl, ?_⟩) ?_; rotate_left 1; (focus (intro W hW; have hcW := hW.at; (try dsimp only at hcW); go_simp; first | done | with_reducible rfl)); try simp only [Act.put, List.setIfInBounds_toArray, List.set_cons_zero, List.set_cons_succ]) | (refine takeW 16 (v := ?_) rfl (by decide +kernel) (by decide +kernel) (by decide +kernel) (fun _ _ _ h => h) (Or.inl ⟨by rfl, ?_⟩) ?_; rotate_left 1; (focus (intro W hW; go_simp; first | done | with_reducible rfl)); try simp only [Act.put, List.setIfInBounds_toArray, List.set_cons_zero, List.set_cons_succ]) | (refine takeW 16 rfl (by decide +kernel) (by decide +kernel) (by decide +kernel) (fun _ _ _ h => h) (Or.inr ⟨by rfl, rfl⟩) ?_; try simp only [Act.put, List.setIfInBounds_toArray, List.set_cons_zero, List.set_cons_succ]) | skip))
              refine doneT (by kernel_rfl) ?_
              refine ⟨g10, g11, Aa, ca, Af2, cf2, A2', c2', A3', c3', A', c', _, _, _, _, _, _, _, _, _, _, _, _, rfl, grown_block hg2 K1.out (fun e => ne2.out (by injection e)), k2, ?_⟩
              exact ⟨(hA.out.grown hg2 fun k hk => hk.2).mono fun _ _ => trivial, (hH.out.grown hg2 (fun k hk => hk.2) (by decide)).mono fun _ _ => trivial, (hS.out.grown hg2 (fun k hk => hk.2) (by decide)).mono fun _ _ => trivial, below_grown hb.out hg2 hb.out.size l11.out⟩
          · clear hi
            refine ⟨_, rfl, by rfl, ?_⟩
            intro K hK
            go_simp
            have bb := (Below.refl u1.heap.size u1).alloc (Nat.le_refl _) pkZ
            have sm := smBlk (b1 := w.heap.size) (b2 := w.heap.size + 1) bb (by have := hb.out.size; have := HN7.out; have := hN2.out; omega) (by have := hb.out.size; have := HN7.out; have := hN2.out; omega)
            have l11 := Lib.hid hb.out.size
            have b11 := Lib.hid (alloc1 u1 pkZ)
            replace hf := Lib.hid (hf.out.keep (w' := u1.alloc pkZ) fun k hk => bb.block k (Nat.lt_of_lt_of_le hk hM.out))
            replace hb := Lib.hid (hb.out.trans (bb.mono hb.out.size))
            replace hM := Lib.hid (Nat.le_trans hM.out bb.size)
            refine hK _ _ (.inr sm) ?_
            clear hK K sm bb
            try simp only [Act.put, List.setIfInBounds_toArray, List.set_cons_zero, List.set_cons_succ]
            generalize u1.alloc pkZ = u12 at b11 l11 hb hf hM ⊢
            generalize u1.heap.size = g11 at b11 l11 hb hf hM ⊢
            refine stepTA [7, 12] (by decide +kernel) (by decide) ?_
            intro i hi
            rcases (by simpa using hi : i = 7 ∨ i = 12) with rfl | rfl
            · clear hi
              refine ⟨_, rfl, by rfl, ?_⟩
              intro K hK
              go_simp
              refine (KRS.out u12 M hM.out hyM.out hb.out Af cf hf.out).mono ?_
              rintro e u13 ⟨v', F', A', c', rfl, ra, hw, hm⟩
              have bb := hm.belowN (N := u12.heap.size) (fun k hk => hk.elim) (Nat.le_refl _)
              have sm := smBlk (b1 := w.heap.size) (b2 := w.heap.size + 1) bb (by have := hb.out.size; have := HN7.out; have := hN2.out; omega) (by have := hb.out.size; have := HN7.out; have := hN2.out; omega)
              have n11 := Lib.hid (show ¬ F' g11 from fun hf => (hm.new _ hf).elim (fun h => h) (fun h => by have := block_lt b11.out; omega))
              replace b11 := Lib.hid ((bb.block _ (block_lt b11.out)).trans b11.out)
              replace hb := Lib.hid (hb.out.trans (bb.mono hb.out.size))
              replace hM := Lib.hid (Nat.le_trans hM.out bb.size)
              replace ra := Lib.hid ra
              replace hw := Lib.hid hw
              refine hK _ _ (.inr sm) ?_
              clear hK K sm bb hm hf
              try simp only [Act.put, List.setIfInBounds_toArray, List.set_cons_zero, List.set_cons_succ]
              ((first | (refine takeT 8 (v := ?_) rfl (by decide +kernel) (by decide +kernel) (by decide +kernel) (fun _ _ _ h => h) (by decide +kernel) (Or.inl ⟨by rfl, ?_⟩) ?_; rotate_left 1; (focus (intro W hW; have hcW := hW.at; (try dsimp only at hcW); go_simp; first | done | with_reducible rfl)); try simp only [Act.put, List.setIfInBounds_toArray, List.set_cons_zero, List.set_cons_succ]) | (refine takeW 8 (v := ?_) rfl (by decide +kernel) (by decide +kernel) (by decide +kernel) (fun _ _ _ h => h) (Or.inl ⟨by rfl, ?_⟩) ?_; rotate_left 1; (focus (intro W hW; go_simp; first | done | with_reducible rfl)); try simp only [Act.put, List.setIfInBounds_toArray, List.set_cons_zero, List.set_cons_succ]) | (refine takeW 8 rfl (by decide +kernel) (by decide +kernel) (by decide +kernel) (fun _ _ _ h => h) (Or.inr ⟨by rfl, rfl⟩) ?_; try simp only [Act.put, List.setIfInBounds_toArray, List.set_cons_zero, List.set_cons_succ]) | skip); (first | (refine takeT 9 (v := ?_) rfl (by decide +kernel) (by decide +kernel) (by decide +kernel) (fun _ _ _ h => h) (by decide +kernel) (Or.inl ⟨by rfl, ?_⟩) ?_; rotate_left 1; (focus (intro W hW; have hcW := hW.at; (try dsimp only at hcW); go_simp; first | done | with_reducible rfl)); try simp only [Act.put, List.setIfInBounds_toArray, List.set_cons_zero, List.set_cons_succ]) | (refine takeW 9 (v := ?_) rfl (by decide +kernel) (by decide +kernel) (by decide +kernel) (fun _ _ _ h => h) (Or.inl ⟨by rfl, ?_⟩) ?_; rotate_left 1; (focus (intro W hW; go_simp; first | done | with_reducible rfl)); try simp only [Act.put, List.setIfInBounds_toArray, List.set_cons_zero, List.set_cons_succ]) | (refine takeW 9 rfl (by decide +kernel) (by decide +kernel) (by decide +kernel) (fun _ _ _ h => h) (Or.inr ⟨by rfl, rfl⟩) ?_; try simp only [Act.put, List.setIfInBounds_toArray, List.set_cons_zero, List.set_cons_succ]) | skip); (first | (refine takeT 10 (v := ?_) rfl (by decide +kernel) (by decide +kernel) (by decide +kernel) (fun _ _ _ h => h) (by decide +kernel) (Or.inl ⟨by rfl, ?_⟩) ?_; rotate_left 1; (focus (intro W hW; have hcW := hW.at; (try dsimp only at hcW); go_simp; first | done | with_reducible rfl)); try simp only [Act.put, List.setIfInBounds_toArray, List.set_cons_zero, List.set_cons_succ]) | (refine takeW 10 (v := ?_) rfl (by decide +kernel) (by decide +kernel) (by decide +kernel) (fun _ _ _ h => h) (Or.inl ⟨by rfl, ?_⟩) ?_; rotate_left 1; (focus (intro W hW; go_simp; first | done | with_reducible rfl)); try simp only [Act.put, List.setIfInBounds_toArray, List.set_cons_zero, List.set_cons_succ]) | (refine takeW 10 rfl (by decide +kernel) (by decide +kernel) (by decide +kernel) (fun _ _ _ h => h) (Or.inr ⟨by rfl, rfl⟩) ?_; try simp only [Act.put, List.setIfInBounds_toArray, List.set_cons_zero, List.set_cons_succ]) | skip); (first | (refine takeT 11 (v := ?_) rfl (by decide +kernel) (by decide +kernel) (by decide +kernel) (fun _ _ _ h => h) (by decide +kernel) (Or.inl ⟨by rfl, ?_⟩) ?_; rotate_left 1; (focus (intro W hW; have hcW := hW.at; (try dsimp only at hcW); go_simp; first | done | with_reducible rfl)); try simp only [Act.put, List.setIfInBounds_toArray, List.set_cons_zero, List.set_cons_succ]) | (refine takeW 11 (v := ?_) rfl (by decide +kernel) (by decide +kernel) (by decide +kernel) (fun _ _ _ h => h) (Or.inl ⟨by rfl, ?_⟩) ?_; rotate_left 1; (focus (intro W hW; go_simp; first | done | with_reducible rfl)); try simp only [Act.put, List.setIfInBounds_toArray, List.set_cons_zero, List.set_cons_succ]) | (refine takeW 11 rfl (by decide +kernel) (by decide +kernel) (by decide +kernel) (fun _ _ _ h => h) (Or.inr ⟨by rfl, rfl⟩) ?_; try simp only [Act.put, List.setIfInBounds_toArray, List.set_cons_zero, List.set_cons_succ]) | skip))
              refine stepTA [12] (by decide +kernel) (by decide) ?_
              intro i hi
              obtain rfl : i = 12 := by simpa using hi
              clear hi
              refine ⟨_, rfl, by rfl, ?_⟩
              intro K hK
              go_simp
              have bb := (Below.refl u13.heap.size u13).alloc (Nat.le_refl _) (.cells #[.slice none 0 0, .slice none 0 0, .slice none 0 0, .slice none 0 0] 67)
              have sm := smBlk (b1 := w.heap.size) (b2 := w.heap.size + 1) bb (by have := hb.out.size; have := HN7.out; have := hN2.out; omega) (by have := hb.out.size; have := HN7.out; have := hN2.out; omega)
              have l10 := Lib.hid hb.out.size
              have ne := Lib.hid (show g11 ≠ u13.heap.size from fun e => by have := block_lt b11.out; omega)
              replace b11 := Lib.hid ((bb.block _ (block_lt b11.out)).trans b11.out)
              have b10 := Lib.hid (alloc1 u13 (.cells #[.slice none 0 0, .slice none 0 0, .slice none 0 0, .slice none 0 0] 67))
              have n10 := Lib.hid (show ¬ F' u13.heap.size from fun hf => by have := ((rwA _ _ _).ge hw.out _ hf).2; omega)
              replace hw := Lib.hid (Asr.below hw.out bb hM.out)
              replace ra := Lib.hid (ra.out.keep (w' := u13.alloc (.cells #[.slice none 0 0, .slice none 0 0, .slice none 0 0, .slice none 0 0] 67)) fun k hk => bb.block k (Nat.lt_of_lt_of_le hk.2 hM.out))
              replace hb := Lib.hid (hb.out.trans (bb.mono hb.out.size))
              replace hM := Lib.hid (Nat.le_trans hM.out bb.size)
              refine hK _ _ (.inr sm) ?_
              clear hK K sm bb
              try simp only [Act.put, List.setIfInBounds_toArray, List.set_cons_zero, List.set_cons_succ]
              generalize u13.alloc (.cells #[.slice none 0 0, .slice none 0 0, .slice none 0 0, .slice none 0 0] 67) = u14 at b10 l10 hb ne b11 n10 hw ra hM ⊢
              generalize u13.heap.size = g10 at b10 l10 hb ne b11 n10 hw ra hM ⊢
              obtain ⟨Aa, ca, Af2, cf2, A2', c2', A3', c3', rfl, hw1, hw2, hw3, hw4, hw5, hw6⟩ := hw.out
              have hH := Lib.hid (hw3.rdl.mono (G := fun k => k ≠ g10 ∧ k ≠ g11) fun k hk => hk.elim (fun h => by have := l10.out; have := l11.out; have h1 : k < y.heap.size := h.1; omega) (fun h => ⟨fun e => n10.out (by rw [← e]; exact (hw6 k).2 (.inl h)), fun e => n11.out (by rw [← e]; exact (hw6 k).2 (.inl h))⟩))
              have hS := Lib.hid (hw4.rdl.mono (G := fun k => k ≠ g10 ∧ k ≠ g11) fun k hk => hk.elim (fun h => by have := l10.out; have := l11.out; have h1 : k < y.heap.size := h.1; omega) (fun h => ⟨fun e => n10.out (by rw [← e]; exact (hw6 k).2 (.inr h)), fun e => n11.out (by rw [← e]; exact (hw6 k).2 (.inr h))⟩))
              have hA := Lib.hid (ra.out.mono (G := fun k => k ≠ g10 ∧ k ≠ g11) fun k hk => by have := l10.out; have := l11.out; have h1 : k < y.heap.size := hk.1; omega)
              have ne2 := Lib.hid (show g10 ≠ g11 from (fun e => ne.out e.symm))
              clear hw1 hw2 hw3 hw4 hw5 hw6 hw ra
              refine stepT 14 rfl (by decide +kernel) (by rfl) ?_
              intro K hK
              refine wp_storeB flatRw (.tmp 10) (.tmp 52) rfl g10 rfl _ rfl b10.out rfl rfl rfl ?_
              intro z1 k1 hg1 hs1
              refine hK _ _ (.inl (by decide)) ?_
              clear hK K
              try simp only [Act.put, List.setIfInBounds_toArray, List.set_cons_zero, List.set_cons_succ]
              have b11z := grown_block hg1 b11.out (fun e => ne2.out (by injection e with e; exact e.symm))
              replace hH := Lib.hid (hH.out.grown hg1 (fun k hk => hk.1) (by decide))
              replace hS := Lib.hid (hS.out.grown hg1 (fun k hk => hk.1) (by decide))
              replace hA := Lib.hid (hA.out.grown hg1 fun k hk => hk.1)
              replace hb := Lib.hid (below_grown hb.out hg1 hb.out.size l10.out)
              have K1 := Lib.hid k1
              clear k1 hg1 hs1
              refine stepT 15 rfl (by decide +kernel) (by rfl) ?_
              intro K hK
              refine wp_storeB flatPk (.tmp 11) (.tmp 53) rfl g11 rfl _ rfl b11z rfl rfl rfl ?_
              intro z2 k2 hg2 hs2
              refine hK _ _ (.inl (by decide)) ?_
              clear hK K
              try simp only [Act.put, List.setIfInBounds_toArray, List.set_cons_zero, List.set_cons_succ]
              ((first | (refine takeT 16 (v := ?_) rfl (by decide +kernel) (by decide +kernel) (by decide +kernel) (fun _ _ _ h => h) (by decide +kernel) (Or.inl ⟨by rfl, ?_⟩) ?_; rotate_left 1; (focus (intro W hW; have hcW := hW.at; (try dsimp only at hcW); go_simp; first | done | with_reducible rfl)); try simp only [Act.put, List.setIfInBounds_toArray, List.set_cons_zero, List.set_cons_succ]) | (refine takeW 16 (v := ?_) rfl (by decide +kernel) (by decide +kernel) (by decide +kernel) (fun _ _ _ h => h) (Or.inl ⟨by rfl, ?_⟩) ?_; rotate_left 1; (focus (intro W hW; go_simp; first | done | with_reducible rfl)); try simp only [Act.put, List.setIfInBounds_toArray, List.set_cons_zero, List.set_cons_succ]) | (refine takeW 16 rfl (by decide +kernel) (by decide +kernel) (by decide +kernel) (fun _ _ _ h => h) (Or.inr ⟨by rfl, rfl⟩) ?_; try simp only [Act.put, List.setIfInBounds_toArray, List.set_cons_zero, List.set_cons_succ]) | skip))
              refine doneT (by kernel_rfl) ?_
              refine ⟨g10, g11, Aa, ca, Af2, cf2, A2', c2', A3', c3', A', c', _, _, _, _, _, _, _, _, _, _, _, _, rfl, grown_block hg2 K1.out (fun e => ne2.out (by injection e)), k2, ?_⟩
              exact ⟨(hA.out.grown hg2 fun k hk => hk.2).mono fun _ _ => trivial, (hH.out.grown hg2 (fun k hk => hk.2) (by decide)).mono fun _ _ => trivial, (hS.out.grown hg2 (fun k hk => hk.2) (by decide)).mono fun _ _ => trivial, below_grown hb.out hg2 hb.out.size l11.out⟩
            · clear hi
              refine ⟨_, rfl, by rfl, ?_⟩
              intro K hK
              go_simp
              have bb := (Below.refl u12.heap.size u12).alloc (Nat.le_refl _) (.cells #[.slice none 0 0, .slice none 0 0, .slice none 0 0, .slice none 0 0] 67)
              have sm := smBlk (b1 := w.heap.size) (b2 := w.heap.size + 1) bb (by have := hb.out.size; have := HN7.out; have := hN2.out; omega) (by have := hb.out.size; have := HN7.out; have := hN2.out; omega)
              have l10 := Lib.hid hb.out.size
              have ne := Lib.hid (show g11 ≠ u12.heap.size from fun e => by have := block_lt b11.out; omega)
              replace b11 := Lib.hid ((bb.block _ (block_lt b11.out)).trans b11.out)
              have b10 := Lib.hid (alloc1 u12 (.cells #[.slice none 0 0, .slice none 0 0, .slice none 0 0, .slice none 0 0] 67))
              replace hf := Lib.hid (hf.out.keep (w' := u12.alloc (.cells #[.slice none 0 0, .slice none 0 0, .slice none 0 0, .slice none 0 0] 67)) fun k hk => bb.block k (Nat.lt_of_lt_of_le hk hM.out))
              replace hb := Lib.hid (hb.out.trans (bb.mono hb.out.size))
              replace hM := Lib.hid (Nat.le_trans hM.out bb.size)
              refine hK _ _ (.inr sm) ?_
              clear hK K sm bb
              try simp only [Act.put, List.setIfInBounds_toArray, List.set_cons_zero, List.set_cons_succ]
              generalize u12.alloc (.cells #[.slice none 0 0, .slice none 0 0, .slice none 0 0, .slice none 0 0] 67) = u15 at b10 l10 hb ne b11 hf hM ⊢
              generalize u12.heap.size = g10 at b10 l10 hb ne b11 hf hM ⊢
              refine stepTA [7] (by decide +kernel) (by decide) ?_
              intro i hi
              obtain rfl : i = 7 := by simpa using hi
              clear hi
              refine ⟨_, rfl, by rfl, ?_⟩
              intro K hK
              go_simp
              refine (KRS.out u15 M hM.out hyM.out hb.out Af cf hf.out).mono ?_
              rintro e u16 ⟨v', F', A', c', rfl, ra, hw, hm⟩
              have bb := hm.belowN (N := u15.heap.size) (fun k hk => hk.elim) (Nat.le_refl _)
              have sm := smBlk (b1 := w.heap.size) (b2 := w.heap.size + 1) bb (by have := hb.out.size; have := HN7.out; have := hN2.out; omega) (by have := hb.out.size; have := HN7.out; have := hN2.out; omega)
              have n10 := Lib.hid (show ¬ F' g10 from fun hf => (hm.new _ hf).elim (fun h => h) (fun h => by have := block_lt b10.out; omega))
              replace b10 := Lib.hid ((bb.block _ (block_lt b10.out)).trans b10.out)
              have n11 := Lib.hid (show ¬ F' g11 from fun hf => (hm.new _ hf).elim (fun h => h) (fun h => by have := block_lt b11.out; omega))
              replace b11 := Lib.hid ((bb.block _ (block_lt b11.out)).trans b11.out)
              replace hb := Lib.hid (hb.out.trans (bb.mono hb.out.size))
              replace hM := Lib.hid (Nat.le_trans hM.out bb.size)
              replace ra := Lib.hid ra
              replace hw := Lib.hid hw
              refine hK _ _ (.inr sm) ?_
              clear hK K sm bb hm hf
              try simp only [Act.put, List.setIfInBounds_toArray, List.set_cons_zero, List.set_cons_succ]
              ((first | (refine takeT 8 (v := ?_) rfl (by decide +kernel) (by decide +kernel) (by decide +kernel) (fun _ _ _ h => h) (by decide +kernel) (Or.inl ⟨by rfl, ?_⟩) ?_; rotate_left 1; (focus (intro W hW; have hcW := hW.at; (try dsimp only at hcW); go_simp; first | done | with_reducible rfl)); try simp only [Act.put, List.setIfInBounds_toArray, List.set_cons_zero, List.set_cons_succ]) | (refine takeW 8 (v := ?_) rfl (by decide +kernel) (by decide +kernel) (by decide +kernel) (fun _ _ _ h => h) (Or.inl ⟨by rfl, ?_⟩) ?_; rotate_left 1; (focus (intro W hW; go_simp; first | done | with_reducible rfl)); try simp only [Act.put, List.setIfInBounds_toArray, List.set_cons_zero, List.set_cons_succ]) | (refine takeW 8 rfl (by decide +kernel) (by decide +kernel) (by decide +kernel) (fun _ _ _ h => h) (Or.inr ⟨by rfl, rfl⟩) ?_; try simp only [Act.put, List.setIfInBounds_toArray, List.set_cons_zero, List.set_cons_succ]) | skip); (first | (refine takeT 9 (v := ?_) rfl (by decide +kernel) (by decide +kernel) (by decide +kernel) (fun _ _ _ h => h) (by decide +kernel) (Or.inl ⟨by rfl, ?_⟩) ?_; rotate_left 1; (focus (intro W hW; have hcW := hW.at; (try dsimp only at hcW); go_simp; first | done | with_reducible rfl)); try simp only [Act.put, List.setIfInBounds_toArray, List.set_cons_zero, List.set_cons_succ]) | (refine takeW 9 (v := ?_) rfl (by decide +kernel) (by decide +kernel) (by decide +kernel) (fun _ _ _ h => h) (Or.inl ⟨by rfl, ?_⟩) ?_; rotate_left 1; (focus (intro W hW; go_simp; first | done | with_reducible rfl)); try simp only [Act.put, List.setIfInBounds_toArray, List.set_cons_zero, List.set_cons_succ]) | (refine takeW 9 rfl (by decide +kernel) (by decide +kernel) (by decide +kernel) (fun _ _ _ h => h) (Or.inr ⟨by rfl, rfl⟩) ?_; try simp only [Act.put, List.setIfInBounds_toArray, List.set_cons_zero, List.set_cons_succ]) | skip); (first | (refine takeT 10 (v := ?_) rfl (by decide +kernel) (by decide +kernel) (by decide +kernel) (fun _ _ _ h => h) (by decide +kernel) (Or.inl ⟨by rfl, ?_⟩) ?_; rotate_left 1; (focus (intro W hW; have hcW := hW.at; (try dsimp only at hcW); go_simp; first | done | with_reducible rfl)); try simp only [Act.put, List.setIfInBounds_toArray, List.set_cons_zero, List.set_cons_succ]) | (refine takeW 10 (v := ?_) rfl (by decide +kernel) (by decide +kernel) (by decide +kernel) (fun _ _ _ h => h) (Or.inl ⟨by rfl, ?_⟩) ?_; rotate_left 1; (focus (intro W hW; go_simp; first | done | with_reducible rfl)); try simp only [Act.put, List.setIfInBounds_toArray, List.set_cons_zero, List.set_cons_succ]) | (refine takeW 10 rfl (by decide +kernel) (by decide +kernel) (by decide +kernel) (fun _ _ _ h => h) (Or.inr ⟨by rfl, rfl⟩) ?_; try simp only [Act.put, List.setIfInBounds_toArray, List.set_cons_zero, List.set_cons_succ]) | skip); (first | (refine takeT 11 (v := ?_) rfl (by decide +kernel) (by decide +kernel) (by decide +kernel) (fun _ _ _ h => h) (by decide +kernel) (Or.inl ⟨by rfl, ?_⟩) ?_; rotate_left 1; (focus (intro W hW; have hcW := hW.at; (try dsimp only at hcW); go_simp; first | done | with_reducible rfl)); try simp only [Act.put, List.setIfInBounds_toArray, List.set_cons_zero, List.set_cons_succ]) | (refine takeW 11 (v := ?_) rfl (by decide +kernel) (by decide +kernel) (by decide +kernel) (fun _ _ _ h => h) (Or.inl ⟨by rfl, ?_⟩) ?_; rotate_left 1; (focus (intro W hW; go_simp; first | done | with_reducible rfl)); try simp only [Act.put, List.setIfInBounds_toArray, List.set_cons_zero, List.set_cons_succ]) | (refine takeW 11 rfl (by decide +kernel) (by decide +kernel) (by decide +kernel) (fun _ _ _ h => h) (Or.inr ⟨by rfl, rfl⟩) ?_; try simp only [Act.put, List.setIfInBounds_toArray, List.set_cons_zero, List.set_cons_succ]) | skip))
              obtain ⟨Aa, ca, Af2, cf2, A2', c2', A3', c3', rfl, hw1, hw2, hw3, hw4, hw5, hw6⟩ := hw.out
              have hH := Lib.hid (hw3.rdl.mono (G := fun k => k ≠ g10 ∧ k ≠ g11) fun k hk => hk.elim (fun h => by have := l10.out; have := l11.out; have h1 : k < y.heap.size := h.1; omega) (fun h => ⟨fun e => n10.out (by rw [← e]; exact (hw6 k).2 (.inl h)), fun e => n11.out (by rw [← e]; exact (hw6 k).2 (.inl h))⟩))
              have hS := Lib.hid (hw4.rdl.mono (G := fun k => k ≠ g10 ∧ k ≠ g11) fun k hk => hk.elim (fun h => by have := l10.out; have := l11.out; have h1 : k < y.heap.size := h.1; omega) (fun h => ⟨fun e => n10.out (by rw [← e]; exact (hw6 k).2 (.inr h)), fun e => n11.out (by rw [← e]; exact (hw6 k).2 (.inr h))⟩))
              have hA := Lib.hid (ra.out.mono (G := fun k => k ≠ g10 ∧ k ≠ g11) fun k hk => by have := l10.out; have := l11.out; have h1 : k < y.heap.size := hk.1; omega)
              have ne2 := Lib.hid (show g10 ≠ g11 from (fun e => ne.out e.symm))
              clear hw1 hw2 hw3 hw4 hw5 hw6 hw ra
              refine stepT 14 rfl (by decide +kernel) (by rfl) ?_
              intro K hK
              refine wp_storeB flatRw (.tmp 10) (.tmp 52) rfl g10 rfl _ rfl b10.out rfl rfl rfl ?_
              intro z1 k1 hg1 hs1
              refine hK _ _ (.inl (by decide)) ?_
              clear hK K
              try simp only [Act.put, List.setIfInBounds_toArray, List.set_cons_zero, List.set_cons_succ]
              have b11z := grown_block hg1 b11.out (fun e => ne2.out (by injection e with e; exact e.symm))
              replace hH := Lib.hid (hH.out.grown hg1 (fun k hk => hk.1) (by decide))
              replace hS := Lib.hid (hS.out.grown hg1 (fun k hk => hk.1) (by decide))
              replace hA := Lib.hid (hA.out.grown hg1 fun k hk => hk.1)
              replace hb := Lib.hid (below_grown hb.out hg1 hb.out.size l10.out)
              have K1 := Lib.hid k1
              clear k1 hg1 hs1
              refine stepT 15 rfl (by decide +kernel) (by rfl) ?_
              intro K hK
              refine wp_storeB flatPk (.tmp 11) (.tmp 53) rfl g11 rfl _ rfl b11z rfl rfl rfl ?_
              intro z2 k2 hg2 hs2
              refine hK _ _ (.inl (by decide)) ?_
              clear hK K
              try simp only [Act.put, List.setIfInBounds_toArray, List.set_cons_zero, List.set_cons_succ]
              ((first | (refine takeT 16 (v := ?_) rfl (by decide +kernel) (by decide +kernel) (by decide +kernel) (fun _ _ _ h => h) (by decide +kernel) (Or.inl ⟨by rfl, ?_⟩) ?_; rotate_left 1; (focus (intro W hW; have hcW := hW.at; (try dsimp only at hcW); go_simp; first | done | with_reducible rfl)); try simp only [Act.put, List.setIfInBounds_toArray, List.set_cons_zero, List.set_cons_succ]) | (refine takeW 16 (v := ?_) rfl (by decide +kernel) (by decide +kernel) (by decide +kernel) (fun _ _ _ h => h) (Or.inl ⟨by rfl, ?_⟩) ?_; rotate_left 1; (focus (intro W hW; go_simp; first | done | with_reducible rfl)); try simp only [Act.put, List.setIfInBounds_toArray, List.set_cons_zero, List.set_cons_succ]) | (refine takeW 16 rfl (by decide +kernel) (by decide +kernel) (by decide +kernel) (fun _ _ _ h => h) (Or.inr ⟨by rfl, rfl⟩) ?_; try simp only [Act.put, List.setIfInBounds_toArray, List.set_cons_zero, List.set_cons_succ]) | skip))
              refine doneT (by kernel_rfl) ?_
              refine ⟨g10, g11, Aa, ca, Af2, cf2, A2', c2', A3', c3', A', c', _, _, _, _, _, _, _, _, _, _, _, _, rfl, grown_block hg2 K1.out (fun e => ne2.out (by injection e)), k2, ?_⟩
              exact ⟨(hA.out.grown hg2 fun k hk => hk.2).mono fun _ _ => trivial, (hH.out.grown hg2 (fun k hk => hk.2) (by decide)).mono fun _ _ => trivial, (hS.out.grown hg2 (fun k hk => hk.2) (by decide)).mono fun _ _ => trivial, below_grown hb.out hg2 hb.out.size l11.out⟩
        · clear hi
          refine ⟨_, rfl, by rfl, ?_⟩
          intro K hK
          go_simp
          have bb := (Below.refl x0.heap.size x0).alloc (Nat.le_refl _) (.cells #[.slice none 0 0, .slice none 0 0, .slice none 0 0, .slice none 0 0] 67)
          have sm := smBlk (b1 := w.heap.size) (b2 := w.heap.size + 1) bb (by have := hb.out.size; have := HN7.out; have := hN2.out; omega) (by have := hb.out.size; have := HN7.out; have := hN2.out; omega)
          have l10 := Lib.hid hb.out.size
          have b10 := Lib.hid (alloc1 x0 (.cells #[.slice none 0 0, .slice none 0 0, .slice none 0 0, .slice none 0 0] 67))
          replace hb := Lib.hid (hb.out.trans (bb.mono hb.out.size))
          refine hK _ _ (.inr sm) ?_
          clear hK K sm bb
          try simp only [Act.put, List.setIfInBounds_toArray, List.set_cons_zero, List.set_cons_succ]
          generalize x0.alloc (.cells #[.slice none 0 0, .slice none 0 0, .slice none 0 0, .slice none 0 0] 67) = u17 at b10 l10 hb ⊢
          generalize x0.heap.size = g10 at b10 l10 hb ⊢
          refine stepTA [4, 13] (by decide +kernel) (by decide) ?_
          intro i hi
          rcases (by simpa using hi : i = 4 ∨ i = 13) with rfl | rfl
          · clear hi
            refine ⟨_, rfl, by rfl, ?_⟩
            intro K hK
            go_simp
            refine (KF.out u17 hb.out).mono ?_
            rintro e u18 ⟨v, rfl, ho, bb⟩
            obtain ⟨Af, cf, rfl, hf⟩ := RdS.of_own ho
            have sm := smBlk (b1 := w.heap.size) (b2 := w.heap.size + 1) bb (by have := hb.out.size; have := HN7.out; have := hN2.out; omega) (by have := hb.out.size; have := HN7.out; have := hN2.out; omega)
            replace b10 := Lib.hid ((bb.block _ (block_lt b10.out)).trans b10.out)
            replace hb := Lib.hid (hb.out.trans (bb.mono hb.out.size))
            refine hK _ _ (.inr sm) ?_
            clear hK K sm bb ho
            try simp only [Act.put, List.setIfInBounds_toArray, List.set_cons_zero, List.set_cons_succ]
            have hyM := Lib.hid hb.out.size
            have hM := Lib.hid (Nat.le_refl u18.heap.size)
            replace hf := Lib.hid (hf.mono (G := fun k => k < u18.heap.size) fun k hk => hk.2)
            obtain ⟨M, hMe⟩ : ∃ M, u18.heap.size = M := ⟨_, rfl⟩
            rw [hMe] at hyM hf
            replace hM := Lib.hid (Nat.le_of_eq hMe.symm)
            clear hMe
            ((first | (refine takeT 5 (v := ?_) rfl (by decide +kernel) (by decide +kernel) (by decide +kernel) (fun _ _ _ h => h) (by decide +kernel) (Or.inl ⟨by rfl, ?_⟩) ?_; rotate_left 1; (focus (intro W hW; have hcW := hW.at; (try dsimp only at hcW); go_simp; first | done | with_reducible rfl)); try simp only [Act.put, List.setIfInBounds_toArray, List.set_cons_zero, List.set_cons_succ]) | (refine takeW 5 (v := ?_) rfl (by decide +kernel) (by decide +kernel) (by decide +kernel) (fun _ _ _ h => h) (Or.inl ⟨by rfl, ?_⟩) ?_; rotate_left 1; (focus (intro W hW; go_simp; first | done | with_reducible rfl)); try simp only [Act.put, List.setIfInBounds_toArray, List.set_cons_zero, List.set_cons_succ]) | (refine takeW 5 rfl (by decide +kernel) (by decide +kernel) (by decide +kernel) (fun _ _ _ h => h) (Or.inr ⟨by rfl, rfl⟩) ?_; try simp only [Act.put, List.setIfInBounds_toArray, List.set_cons_zero, List.set_cons_succ]) | skip))
            refine stepTA [7, 13] (by decide +kernel) (by decide) ?_
            intro i hi
            rcases (by simpa using hi : i = 7 ∨ i = 13) with rfl | rfl
            · clear hi
              refine ⟨_, rfl, by rfl, ?_⟩
              intro K hK
              go_simp
              refine (KRS.out u18 M hM.out hyM.out hb.out Af cf hf.out).mono ?_
              rintro e u19 ⟨v', F', A', c', rfl, ra, hw, hm⟩
              have bb := hm.belowN (N := u18.heap.size) (fun k hk => hk.elim) (Nat.le_refl _)
              have sm := smBlk (b1 := w.heap.size) (b2 := w.heap.size + 1) bb (by have := hb.out.size; have := HN7.out; have := hN2.out; omega) (by have := hb.out.size; have := HN7.out; have := hN2.out; omega)
              have n10 := Lib.hid (show ¬ F' g10 from fun hf => (hm.new _ hf).elim (fun h => h) (fun h => by have := block_lt b10.out; omega))
              replace b10 := Lib.hid ((bb.block _ (block_lt b10.out)).trans b10.out)
              replace hb := Lib.hid (hb.out.trans (bb.mono hb.out.size))
              replace hM := Lib.hid (Nat.le_trans hM.out bb.size)
              replace ra := Lib.hid ra
              replace hw := Lib.hid hw
              refine hK _ _ (.inr sm) ?_
              clear hK K sm bb hm hf
              try simp only [Act.put, List.setIfInBounds_toArray, List.set_cons_zero, List.set_cons_succ]
              ((first | (refine takeT 8 (v := ?_) rfl (by decide +kernel) (by decide +kernel) (by decide +kernel) (fun _ _ _ h => h) (by decide +kernel) (Or.inl ⟨by rfl, ?_⟩) ?_; rotate_left 1; (focus (intro W hW; have hcW := hW.at; (try dsimp only at hcW); go_simp; first | done | with_reducible rfl)); try simp only [Act.put, List.setIfInBounds_toArray, List.set_cons_zero, List.set_cons_succ]) | (refine takeW 8 (v := ?_) rfl (by decide +kernel) (by decide +kernel) (by decide +kernel) (fun _ _ _ h => h) (Or.inl ⟨by rfl, ?_⟩) ?_; rotate_left 1; (focus (intro W hW; go_simp; first | done | with_reducible rfl)); try simp only [Act.put, List.setIfInBounds_toArray, List.set_cons_zero, List.set_cons_succ]) | (refine takeW 8 rfl (by decide +kernel) (by decide +kernel) (by decide +kernel) (fun _ _ _ h => h) (Or.inr ⟨by rfl, rfl⟩) ?_; try simp only [Act.put, List.setIfInBounds_toArray, List.set_cons_zero, List.set_cons_succ]) | skip); (first | (refine takeT 9 (v := ?_) rfl (by decide +kernel) (by decide +kernel) (by decide +kernel) (fun _ _ _ h => h) (by decide +kernel) (Or.inl ⟨by rfl, ?_⟩) ?_; rotate_left 1; (focus (intro W hW; have hcW := hW.at; (try dsimp only at hcW); go_simp; first | done | with_reducible rfl)); try simp only [Act.put, List.setIfInBounds_toArray, List.set_cons_zero, List.set_cons_succ]) | (refine takeW 9 (v := ?_) rfl (by decide +kernel) (by decide +kernel) (by decide +kernel) (fun _ _ _ h => h) (Or.inl ⟨by rfl, ?_⟩) ?_; rotate_left 1; (focus (intro W hW; go_simp; first | done | with_reducible rfl)); try simp only [Act.put, List.setIfInBounds_toArray, List.set_cons_zero, List.set_cons_succ]) | (refine takeW 9 rfl (by decide +kernel) (by decide +kernel) (by decide +kernel) (fun _ _ _ h => h) (Or.inr ⟨by rfl, rfl⟩) ?_; try simp only [Act.put, List.setIfInBounds_toArray, List.set_cons_zero, List.set_cons_succ]) | skip); (first | (refine takeT 10 (v := ?_) rfl (by decide +kernel) (by decide +kernel) (by decide +kernel) (fun _ _ _ h => h) (by decide +kernel) (Or.inl ⟨by rfl, ?_⟩) ?_; rotate_left 1; (focus (intro W hW; have hcW := hW.at; (try dsimp only at hcW); go_simp; first | done | with_reducible rfl)); try simp only [Act.put, List.setIfInBounds_toArray, List.set_cons_zero, List.set_cons_succ]) | (refine takeW 10 (v := ?_) rfl (by decide +kernel) (by decide +kernel) (by decide +kernel) (fun _ _ _ h => h) (Or.inl ⟨by rfl, ?_⟩) ?_; rotate_left 1; (focus (intro W hW; go_simp; first | done | with_reducible rfl)); try simp only [Act.put, List.setIfInBounds_toArray, List.set_cons_zero, List.set_cons_succ]) | (refine takeW 10 rfl (by decide +kernel) (by decide +kernel) (by decide +kernel) (fun _ _ _ h => h) (Or.inr ⟨by rfl, rfl⟩) ?_; try simp only [Act.put, List.setIfInBounds_toArray, List.set_cons_zero, List.set_cons_succ]) | skip); (first | (refine takeT 11 (v := ?_) rfl (by decide +kernel) (by decide +kernel) (by decide +kernel) (fun _ _ _ h => h) (by decide +kernel) (Or.inl ⟨by rfl, ?_⟩) ?_; rotate_left 1; (focus (intro W hW; have hcW := hW.at; (try dsimp only at hcW); go_simp; first | done | with_reducible rfl)); try simp only [Act.put, List.setIfInBounds_toArray, List.set_cons_zero, List.set_cons_succ]) | (refine takeW 11 (v := ?_) rfl (by decide +kernel) (by decide +kernel) (by decide +kernel) (fun _ _ _ h => h) (Or.inl ⟨by rfl, ?_⟩) ?_; rotate_left 1; (focus (intro W hW; go_simp; first | done | with_reducible rfl)); try simp only [Act.put, List.setIfInBounds_toArray, List.set_cons_zero, List.set_cons_succ]) | (refine takeW 11 rfl (by decide +kernel) (by decide +kernel) (by decide +kernel) (fun _ _ _ h => h) (Or.inr ⟨by rfl, rfl⟩) ?_; try simp only [Act.put, List.setIfInBounds_toArray, List.set_cons_zero, List.set_cons_succ]) | skip))
              refine stepTA [13] (by decide +kernel) (by decide) ?_
              intro i hi
              obtain rfl : i = 13 := by simpa using hi
              clear hi
              refine ⟨_, rfl, by rfl, ?_⟩
              intro K hK
              go_simp
              have bb := (Below.refl u19.heap.size u19).alloc (Nat.le_refl _) pkZ
              have sm := smBlk (b1 := w.heap.size) (b2 := w.heap.size + 1) bb (by have := hb.out.size; have := HN7.out; have := hN2.out; omega) (by have := hb.out.size; have := HN7.out; have := hN2.out; omega)
              have l11 := Lib.hid hb.out.size
              have ne := Lib.hid (show g10 ≠ u19.heap.size from fun e => by have := block_lt b10.out; omega)
              replace b10 := Lib.hid ((bb.block _ (block_lt b10.out)).trans b10.out)
              have b11 := Lib.hid (alloc1 u19 pkZ)
              have n11 := Lib.hid (show ¬ F' u19.heap.size from fun hf => by have := ((rwA _ _ _).ge hw.out _ hf).2; omega)
              replace hw := Lib.hid (Asr.below hw.out bb hM.out)
              replace ra := Lib.hid (ra.out.keep (w' := u19.alloc pkZ) fun k hk => bb.block k (Nat.lt_of_lt_of_le hk.2 hM.out))
              replace hb := Lib.hid (hb.out.trans (bb.mono hb.out.size))
              replace hM := Lib.hid (Nat.le_trans hM.out bb.size)
              refine hK _ _ (.inr sm) ?_
              clear hK K sm bb
              try simp only [Act.put, List.setIfInBounds_toArray, List.set_cons_zero, List.set_cons_succ]
              generalize u19.alloc pkZ = u20 at b11 l11 hb ne b10 n11 hw ra hM ⊢
              generalize u19.heap.size = g11 at b11 l11 hb ne b10 n11 hw ra hM ⊢
              obtain ⟨Aa, ca, Af2, cf2, A2', c2', A3', c3', rfl, hw1, hw2, hw3, hw4, hw5, hw6⟩ := hw.out
              have hH := Lib.hid (hw3.rdl.mono (G := fun k => k ≠ g10 ∧ k ≠ g11) fun k hk => hk.elim (fun h => by have := l10.out; have := l11.out; have h1 : k < y.heap.size := h.1; omega) (fun h => ⟨fun e => n10.out (by rw [← e]; exact (hw6 k).2 (.inl h)), fun e => n11.out (by rw [← e]; exact (hw6 k).2 (.inl h))⟩))
              have hS := Lib.hid (hw4.rdl.mono (G := fun k => k ≠ g10 ∧ k ≠ g11) fun k hk => hk.elim (fun h => by have := l10.out; have := l11.out; have h1 : k < y.heap.size := h.1; omega) (fun h => ⟨fun e => n10.out (by rw [← e]; exact (hw6 k).2 (.inr h)), fun e => n11.out (by rw [← e]; exact (hw6 k).2 (.inr h))⟩))
              have hA := Lib.hid (ra.out.mono (G := fun k => k ≠ g10 ∧ k ≠ g11) fun k hk => by have := l10.out; have := l11.out; have h1 : k < y.heap.size := hk.1; omega)
              have ne2 := Lib.hid (show g10 ≠ g11 from ne.out)
              clear hw1 hw2 hw3 hw4 hw5 hw6 hw ra
              refine stepT 14 rfl (by decide +kernel) (by rfl) ?_
              intro K hK
              refine wp_storeB flatRw (.tmp 10) (.tmp 52) rfl g10 rfl _ rfl b10.out rfl rfl rfl ?_
              intro z1 k1 hg1 hs1
              refine hK _ _ (.inl (by decide)) ?_
              clear hK K
              try simp only [Act.put, List.setIfInBounds_toArray, List.set_cons_zero, List.set_cons_succ]
              have b11z := grown_block hg1 b11.out (fun e => ne2.out (by injection e with e; exact e.symm))
              replace hH := Lib.hid (hH.out.grown hg1 (fun k hk => hk.1) (by decide))
              replace hS := Lib.hid (hS.out.grown hg1 (fun k hk => hk.1) (by decide))
              replace hA := Lib.hid (hA.out.grown hg1 fun k hk => hk.1)
              replace hb := Lib.hid (below_grown hb.out hg1 hb.out.size l10.out)
              have K1 := Lib.hid k1
              clear k1 hg1 hs1
              refine stepT 15 rfl (by decide +kernel) (by rfl) ?_
              intro K hK
              refine wp_storeB flatPk (.tmp 11) (.tmp 53) rfl g11 rfl _ rfl b11z rfl rfl rfl ?_
              intro z2 k2 hg2 hs2
              refine hK _ _ (.inl (by decide)) ?_
              clear hK K
              try simp only [Act.put, List.setIfInBounds_toArray, List.set_cons_zero, List.set_cons_succ]
              ((first | (refine takeT 16 (v := ?_) rfl (by decide +kernel) (by decide +kernel) (by decide +kernel) (fun _ _ _ h => h) (by decide +kernel) (Or.inl ⟨by rfl, ?_⟩) ?_; rotate_left 1; (focus (intro W hW; have hcW := hW.at; (try dsimp only at hcW); go_simp; first | done | with_reducible rfl)); try simp only [Act.put, List.setIfInBounds_toArray, List.set_cons_zero, List.set_cons_succ]) | (refine takeW 16 (v := ?_) rfl (by decide +kernel) (by decide +kernel) (by decide +kernel) (fun _ _ _ h => h) (Or.inl ⟨by rfl, ?_⟩) ?_; rotate_left 1; (focus (intro W hW; go_simp; first | done | with_reducible rfl)); try simp only [Act.put, List.setIfInBounds_toArray, List.set_cons_zero, List.set_cons_succ]) | (refine takeW 16 rfl (by decide +kernel) (by decide +kernel) (by decide +kernel) (fun _ _ _ h => h) (Or.inr ⟨by rfl, rfl⟩) ?_; try simp only [Act.put, List.setIfInBounds_toArray, List.set_cons_zero, List.set_cons_succ]) | skip))
              refine doneT (by kernel_rfl) ?_
              refine ⟨g10, g11, Aa, ca, Af2, cf2, A2', c2', A3', c3', A', c', _, _, _, _, _, _, _, _, _, _, _, _, rfl, grown_block hg2 K1.out (fun e => ne2.out (by injection e)), k2, ?_⟩
              exact ⟨(hA.out.grown hg2 fun k hk => hk.2).mono fun _ _ => trivial, (hH.out.grown hg2 (fun k hk => hk.2) (by decide)).mono fun _ _ => trivial, (hS.out.grown hg2 (fun k hk => hk.2) (by decide)).mono fun _ _ => trivial, below_grown hb.out hg2 hb.out.size l11.out⟩
            · clear hi
              refine ⟨_, rfl, by rfl, ?_⟩
              intro K hK
              go_simp
              have bb := (Below.refl u18.heap.size u18).alloc (Nat.le_refl _) pkZ
              have sm := smBlk (b1 := w.heap.size) (b2 := w.heap.size + 1) bb (by have := hb.out.size; have := HN7.out; have := hN2.out; omega) (by have := hb.out.size; have := HN7.out; have := hN2.out; omega)
              have l11 := Lib.hid hb.out.size
              have ne := Lib.hid (show g10 ≠ u18.heap.size from fun e => by have := block_lt b10.out; omega)
              replace b10 := Lib.hid ((bb.block _ (block_lt b10.out)).trans b10.out)
              have b11 := Lib.hid (alloc1 u18 pkZ)
              replace hf := Lib.hid (hf.out.keep (w' := u18.alloc pkZ) fun k hk => bb.block k (Nat.lt_of_lt_of_le hk hM.out))
              replace hb := Lib.hid (hb.out.trans (bb.mono hb.out.size))
              replace hM := Lib.hid (Nat.le_trans hM.out bb.size)
              refine hK _ _ (.inr sm) ?_
              clear hK K sm bb
              try simp only [Act.put, List.setIfInBounds_toArray, List.set_cons_zero, List.set_cons_succ]
              generalize u18.alloc pkZ = u21 at b11 l11 hb ne b10 hf hM ⊢
              generalize u18.heap.size = g11 at b11 l11 hb ne b10 hf hM ⊢
              refine stepTA [7] (by decide +kernel) (by decide) ?_
              intro i hi
              obtain rfl : i = 7 := by simpa using hi
              clear hi
              refine ⟨_, rfl, by rfl, ?_⟩
              intro K hK
              go_simp
              refine (KRS.out u21 M hM.out hyM.out hb.out Af cf hf.out).mono ?_
              rintro e u22 ⟨v', F', A', c', rfl, ra, hw, hm⟩
              have bb := hm.belowN (N := u21.heap.size) (fun k hk => hk.elim) (Nat.le_refl _)
              have sm := smBlk (b1 := w.heap.size) (b2 := w.heap.size + 1) bb (by have := hb.out.size; have := HN7.out; have := hN2.out; omega) (by have := hb.out.size; have := HN7.out; have := hN2.out; omega)
              have n10 := Lib.hid (show ¬ F' g10 from fun hf => (hm.new _ hf).elim (fun h => h) (fun h => by have := block_lt b10.out; omega))
              replace b10 := Lib.hid ((bb.block _ (block_lt b10.out)).trans b10.out)
              have n11 := Lib.hid (show ¬ F' g11 from fun hf => (hm.new _ hf).elim (fun h => h) (fun h => by have := block_lt b11.out; omega))
              replace b11 := Lib.hid ((bb.block _ (block_lt b11.out)).trans b11.out)
              replace hb := Lib.hid (hb.out.trans (bb.mono hb.out.size))
              replace hM := Lib.hid (Nat.le_trans hM.out bb.size)
              replace ra := Lib.hid ra
              replace hw := Lib.hid hw
              refine hK _ _ (.inr sm) ?_
              clear hK K sm bb hm hf
              try simp only [Act.put, List.setIfInBounds_toArray, List.set_cons_zero, List.set_cons_succ]
              ((first | (refine takeT 8 (v := ?_) rfl (by decide +kernel) (by decide +kernel) (by decide +kernel) (fun _ _ _ h => h) (by decide +kernel) (Or.inl ⟨by rfl, ?_⟩) ?_; rotate_left 1; (focus (intro W hW; have hcW := hW.at; (try dsimp only at hcW); go_simp; first | done | with_reducible rfl)); try simp only [Act.put, List.setIfInBounds_toArray, List.set_cons_zero, List.set_cons_succ]) | (refine takeW 8 (v := ?_) rfl (by decide +kernel) (by decide +kernel) (by decide +kernel) (fun _ _ _ h => h) (Or.inl ⟨by rfl, ?_⟩) ?_; rotate_left 1; (focus (intro W hW; go_simp; first | done | with_reducible rfl)); try simp only [Act.put, List.setIfInBounds_toArray, List.set_cons_zero, List.set_cons_succ]) | (refine takeW 8 rfl (by decide +kernel) (by decide +kernel) (by decide +kernel) (fun _ _ _ h => h) (Or.inr ⟨by rfl, rfl⟩) ?_; try simp only [Act.put, List.setIfInBounds_toArray, List.set_cons_zero, List.set_cons_succ]) | skip); (first | (refine takeT 9 (v := ?_) rfl (by decide +kernel) (by decide +kernel) (by decide +kernel) (fun _ _ _ h => h) (by decide +kernel) (Or.inl ⟨by rfl, ?_⟩) ?_; rotate_left 1; (focus (intro W hW; have hcW := hW.at; (try dsimp only at hcW); go_simp; first | done | with_reducible rfl)); try simp only [Act.put, List.setIfInBounds_toArray, List.set_cons_zero, List.set_cons_succ]) | (refine takeW 9 (v := ?_) rfl (by decide +kernel) (by decide +kernel) (by decide +kernel) (fun _ _ _ h => h) (Or.inl ⟨by rfl, ?_⟩) ?_; rotate_left 1; (focus (intro W hW; go_simp; first | done | with_reducible rfl)); try simp only [Act.put, List.setIfInBounds_toArray, List.set_cons_zero, List.set_cons_succ]) | (refine takeW 9 rfl (by decide +kernel) (by decide +kernel) (by decide +kernel) (fun _ _ _ h => h) (Or.inr ⟨by rfl, rfl⟩) ?_; try simp only [Act.put, List.setIfInBounds_toArray, List.set_cons_zero, List.set_cons_succ]) | skip); (first | (refine takeT 10 (v := ?_) rfl (by decide +kernel) (by decide +kernel) (by decide +kernel) (fun _ _ _ h => h) (by decide +kernel) (Or.inl ⟨by rfl, ?_⟩) ?_; rotate_left 1; (focus (intro W hW; have hcW := hW.at; (try dsimp only at hcW); go_simp; first | done | with_reducible rfl)); try simp only [Act.put, List.setIfInBounds_toArray, List.set_cons_zero, List.set_cons_succ]) | (refine takeW 10 (v := ?_) rfl (by decide +kernel) (by decide +kernel) (by decide +kernel) (fun _ _ _ h => h) (Or.inl ⟨by rfl, ?_⟩) ?_; rotate_left 1; (focus (intro W hW; go_simp; first | done | with_reducible rfl)); try simp only [Act.put, List.setIfInBounds_toArray, List.set_cons_zero, List.set_cons_succ]) | (refine takeW 10 rfl (by decide +kernel) (by decide +kernel) (by decide +kernel) (fun _ _ _ h => h) (Or.inr ⟨by rfl, rfl⟩) ?_; try simp only [Act.put, List.setIfInBounds_toArray, List.set_cons_zero, List.set_cons_succ]) | skip); (first | (refine takeT 11 (v := ?_) rfl (by decide +kernel) (by decide +kernel) (by decide +kernel) (fun _ _ _ h => h) (by decide +kernel) (Or.inl ⟨by rfl, ?_⟩) ?_; rotate_left 1; (focus (intro W hW; have hcW := hW.at; (try dsimp only at hcW); go_simp; first | done | with_reducible rfl)); try simp only [Act.put, List.setIfInBounds_toArray, List.set_cons_zero, List.set_cons_succ]) | (refine takeW 11 (v := ?_) rfl (by decide +kernel) (by decide +kernel) (by decide +kernel) (fun _ _ _ h => h) (Or.inl ⟨by rfl, ?_⟩) ?_; rotate_left 1; (focus (intro W hW; go_simp; first | done | with_reducible rfl)); try simp only [Act.put, List.setIfInBounds_toArray, List.set_cons_zero, List.set_cons_succ]) | (refine takeW 11 rfl (by decide +kernel) (by decide +kernel) (by decide +kernel) (fun _ _ _ h => h) (Or.inr ⟨by rfl, rfl⟩) ?_; try simp only [Act.put, List.setIfInBounds_toArray, List.set_cons_zero, List.set_cons_succ]) | skip))
              obtain ⟨Aa, ca, Af2, cf2, A2', c2', A3', c3', rfl, hw1, hw2, hw3, hw4, hw5, hw6⟩ := hw.out
              have hH := Lib.hid (hw3.rdl.mono (G := fun k => k ≠ g10 ∧ k ≠ g11) fun k hk => hk.elim (fun h => by have := l10.out; have := l11.out; have h1 : k < y.heap.size := h.1; omega) (fun h => ⟨fun e => n10.out (by rw [← e]; exact (hw6 k).2 (.inl h)), fun e => n11.out (by rw [← e]; exact (hw6 k).2 (.inl h))⟩))
              have hS := Lib.hid (hw4.rdl.mono (G := fun k => k ≠ g10 ∧ k ≠ g11) fun k hk => hk.elim (fun h => by have := l10.out; have := l11.out; have h1 : k < y.heap.size := h.1; omega) (fun h => ⟨fun e => n10.out (by rw [← e]; exact (hw6 k).2 (.inr h)), fun e => n11.out (by rw [← e]; exact (hw6 k).2 (.inr h))⟩))
              have hA := Lib.hid (ra.out.mono (G := fun k => k ≠ g10 ∧ k ≠ g11) fun k hk => by have := l10.out; have := l11.out; have h1 : k < y.heap.size := hk.1; omega)
              have ne2 := Lib.hid (show g10 ≠ g11 from ne.out)
              clear hw1 hw2 hw3 hw4 hw5 hw6 hw ra
              refine stepT 14 rfl (by decide +kernel) (by rfl) ?_
              intro K hK
              refine wp_storeB flatRw (.tmp 10) (.tmp 52) rfl g10 rfl _ rfl b10.out rfl rfl rfl ?_
              intro z1 k1 hg1 hs1
              refine hK _ _ (.inl (by decide)) ?_
              clear hK K
              try simp only [Act.put, List.setIfInBounds_toArray, List.set_cons_zero, List.set_cons_succ]
              have b11z := grown_block hg1 b11.out (fun e => ne2.out (by injection e with e; exact e.symm))
              replace hH := Lib.hid (hH.out.grown hg1 (fun k hk => hk.1) (by decide))
              replace hS := Lib.hid (hS.out.grown hg1 (fun k hk => hk.1) (by decide))
              replace hA := Lib.hid (hA.out.grown hg1 fun k hk => hk.1)
              replace hb := Lib.hid (below_grown hb.out hg1 hb.out.size l10.out)
              have K1 := Lib.hid k1
              clear k1 hg1 hs1
              refine stepT 15 rfl (by decide +kernel) (by rfl) ?_
              intro K hK
              refine wp_storeB flatPk (.tmp 11) (.tmp 53) rfl g11 rfl _ rfl b11z rfl rfl rfl ?_
              intro z2 k2 hg2 hs2
              refine hK _ _ (.inl (by decide)) ?_
              clear hK K
              try simp only [Act.put, List.setIfInBounds_toArray, List.set_cons_zero, List.set_cons_succ]
              ((first | (refine takeT 16 (v := ?_) rfl (by decide +kernel) (by decide +kernel) (by decide +kernel) (fun _ _ _ h => h) (by decide +kernel) (Or.inl ⟨by rfl, ?_⟩) ?_; rotate_left 1; (focus (intro W hW; have hcW := hW.at; (try dsimp only at hcW); go_simp; first | done | with_reducible rfl)); try simp only [Act.put, List.setIfInBounds_toArray, List.set_cons_zero, List.set_cons_succ]) | (refine takeW 16 (v := ?_) rfl (by decide +kernel) (by decide +kernel) (by decide +kernel) (fun _ _ _ h => h) (Or.inl ⟨by rfl, ?_⟩) ?_; rotate_left 1; (focus (intro W hW; go_simp; first | done | with_reducible rfl)); try simp only [Act.put, List.setIfInBounds_toArray, List.set_cons_zero, List.set_cons_succ]) | (refine takeW 16 rfl (by decide +kernel) (by decide +kernel) (by decide +kernel) (fun _ _ _ h => h) (Or.inr ⟨by rfl, rfl⟩) ?_; try simp only [Act.put, List.setIfInBounds_toArray, List.set_cons_zero, List.set_cons_succ]) | skip))
              refine doneT (by kernel_rfl) ?_
              refine ⟨g10, g11, Aa, ca, Af2, cf2, A2', c2', A3', c3', A', c', _, _, _, _, _, _, _, _, _, _, _, _, rfl, grown_block hg2 K1.out (fun e => ne2.out (by injection e)), k2, ?_⟩
              exact ⟨(hA.out.grown hg2 fun k hk => hk.2).mono fun _ _ => trivial, (hH.out.grown hg2 (fun k hk => hk.2) (by decide)).mono fun _ _ => trivial, (hS.out.grown hg2 (fun k hk => hk.2) (by decide)).mono fun _ _ => trivial, below_grown hb.out hg2 hb.out.size l11.out⟩
          · clear hi
            refine ⟨_, rfl, by rfl, ?_⟩
            intro K hK
            go_simp
            have bb := (Below.refl u17.heap.size u17).alloc (Nat.le_refl _) pkZ
            have sm := smBlk (b1 := w.heap.size) (b2 := w.heap.size + 1) bb (by have := hb.out.size; have := HN7.out; have := hN2.out; omega) (by have := hb.out.size; have := HN7.out; have := hN2.out; omega)
            have l11 := Lib.hid hb.out.size
            have ne := Lib.hid (show g10 ≠ u17.heap.size from fun e => by have := block_lt b10.out; omega)
            replace b10 := Lib.hid ((bb.block _ (block_lt b10.out)).trans b10.out)
            have b11 := Lib.hid (alloc1 u17 pkZ)
            replace hb := Lib.hid (hb.out.trans (bb.mono hb.out.size))
            refine hK _ _ (.inr sm) ?_
            clear hK K sm bb
            try simp only [Act.put, List.setIfInBounds_toArray, List.set_cons_zero, List.set_cons_succ]
            generalize u17.alloc pkZ = u23 at b11 l11 hb ne b10 ⊢
            generalize u17.heap.size = g11 at b11 l11 hb ne b10 ⊢
            refine stepTA [4] (by decide +kernel) (by decide) ?_
            intro i hi
            obtain rfl : i = 4 := by simpa using hi
            clear hi
            refine ⟨_, rfl, by rfl, ?_⟩
            intro K hK
            go_simp
            refine (KF.out u23 hb.out).mono ?_
            rintro e u24 ⟨v, rfl, ho, bb⟩
            obtain ⟨Af, cf, rfl, hf⟩ := RdS.of_own ho
            have sm := smBlk (b1 := w.heap.size) (b2 := w.heap.size + 1) bb (by have := hb.out.size; have := HN7.out; have := hN2.out; omega) (by have := hb.out.size; have := HN7.out; have := hN2.out; omega)
            replace b10 := Lib.hid ((bb.block _ (block_lt b10.out)).trans b10.out)
            replace b11 := Lib.hid ((bb.block _ (block_lt b11.out)).trans b11.out)
            replace hb := Lib.hid (hb.out.trans (bb.mono hb.out.size))
            refine hK _ _ (.inr sm) ?_
            clear hK K sm bb ho
            try simp only [Act.put, List.setIfInBounds_toArray, List.set_cons_zero, List.set_cons_succ]
            have hyM := Lib.hid hb.out.size
            have hM := Lib.hid (Nat.le_refl u24.heap.size)
            replace hf := Lib.hid (hf.mono (G := fun k => k < u24.heap.size) fun k hk => hk.2)
            obtain ⟨M, hMe⟩ : ∃ M, u24.heap.size = M := ⟨_, rfl⟩
            rw [hMe] at hyM hf
            replace hM := Lib.hid (Nat.le_of_eq hMe.symm)
            clear hMe
            ((first | (refine takeT 5 (v := ?_) rfl (by decide +kernel) (by decide +kernel) (by decide +kernel) (fun _ _ _ h => h) (by decide +kernel) (Or.inl ⟨by rfl, ?_⟩) ?_; rotate_left 1; (focus (intro W hW; have hcW := hW.at; (try dsimp only at hcW); go_simp; first | done | with_reducible rfl)); try simp only [Act.put, List.setIfInBounds_toArray, List.set_cons_zero, List.set_cons_succ]) | (refine takeW 5 (v := ?_) rfl (by decide +kernel) (by decide +kernel) (by decide +kernel) (fun _ _ _ h => h) (Or.inl ⟨by rfl, ?_⟩) ?_; rotate_left 1; (focus (intro W hW; go_simp; first | done | with_reducible rfl)); try simp only [Act.put, List.setIfInBounds_toArray, List.set_cons_zero, List.set_cons_succ]) | (refine takeW 5 rfl (by decide +kernel) (by decide +kernel) (by decide +kernel) (fun _ _ _ h => h) (Or.inr ⟨by rfl, rfl⟩) ?_; try simp only [Act.put, List.setIfInBounds_toArray, List.set_cons_zero, List.set_cons_succ]) | skip))
            refine stepTA [7] (by decide +kernel) (by decide) ?_
            intro i hi
            obtain rfl : i = 7 := by simpa using hi
            clear hi
            refine ⟨_, rfl, by rfl, ?_⟩
            intro K hK
            go_simp
            refine (KRS.out u24 M hM.out hyM.out hb.out Af cf hf.out).mono ?_
            rintro e u25 ⟨v', F', A', c', rfl, ra, hw, hm⟩
            have bb := hm.belowN (N := u24.heap.size) (fun k hk => hk.elim) (Nat.le_refl _)
            have sm := smBlk (b1 := w.heap.size) (b2 := w.heap.size + 1) bb (by have := hb.out.size; have := HN7.out; have := hN2.out; omega) (by have := hb.out.size; have := HN7.out; have := hN2.out; omega)
            have n10 := Lib.hid (show ¬ F' g10 from fun hf => (hm.new _ hf).elim (fun h => h) (fun h => by have := block_lt b10.out; omega))
            replace b10 := Lib.hid ((bb.block _ (block_lt b10.out)).trans b10.out)
            have n11 := Lib.hid (show ¬ F' g11 from fun hf => (hm.new _ hf).elim (fun h => h) (fun h => by have := block_lt b11.out; omega))
            replace b11 := Lib.hid ((bb.block _ (block_lt b11.out)).trans b11.out)
            replace hb := Lib.hid (hb.out.trans (bb.mono hb.out.size))
            replace hM := Lib.hid (Nat.le_trans hM.out bb.size)
            replace ra := Lib.hid ra
            replace hw := Lib.hid hw
            refine hK _ _ (.inr sm) ?_
            clear hK K sm bb hm hf
            try simp only [Act.put, List.setIfInBounds_toArray, List.set_cons_zero, List.set_cons_succ]
            ((first | (refine takeT 8 (v := ?_) rfl (by decide +kernel) (by decide +kernel) (by decide +kernel) (fun _ _ _ h => h) (by decide +kernel) (Or.inl ⟨by rfl, ?_⟩) ?_; rotate_left 1; (focus (intro W hW; have hcW := hW.at; (try dsimp only at hcW); go_simp; first | done | with_reducible rfl)); try simp only [Act.put, List.setIfInBounds_toArray, List.set_cons_zero, List.set_cons_succ]) | (refine takeW 8 (v := ?_) rfl (by decide +kernel) (by decide +kernel) (by decide +kernel) (fun _ _ _ h => h) (Or.inl ⟨by rfl, ?_⟩) ?_; rotate_left 1; (focus (intro W hW; go_simp; first | done | with_reducible rfl)); try simp only [Act.put, List.setIfInBounds_toArray, List.set_cons_zero, List.set_cons_succ]) | (refine takeW 8 rfl (by decide +kernel) (by decide +kernel) (by decide +kernel) (fun _ _ _ h => h) (Or.inr ⟨by rfl, rfl⟩) ?_; try simp only [Act.put, List.setIfInBounds_toArray, List.set_cons_zero, List.set_cons_succ]) | skip); (first | (refine takeT 9 (v := ?_) rfl (by decide +kernel) (by decide +kernel) (by decide +kernel) (fun _ _ _ h => h) (by decide +kernel) (Or.inl ⟨by rfl, ?_⟩) ?_; rotate_left 1; (focus (intro W hW; have hcW := hW.at; (try dsimp only at hcW); go_simp; first | done | with_reducible rfl)); try simp only [Act.put, List.setIfInBounds_toArray, List.set_cons_zero, List.set_cons_succ]) | (refine takeW 9 (v := ?_) rfl (by decide +kernel) (by decide +kernel) (by decide +kernel) (fun _ _ _ h => h) (Or.inl ⟨by rfl, ?_⟩) ?_; rotate_left 1; (focus (intro W hW; go_simp; first | done | with_reducible rfl)); try simp only [Act.put, List.setIfInBounds_toArray, List.set_cons_zero, List.set_cons_succ]) | (refine takeW 9 rfl (by decide +kernel) (by decide +kernel) (by decide +kernel) (fun _ _ _ h => h) (Or.inr ⟨by rfl, rfl⟩) ?_; try simp only [Act.put, List.setIfInBounds_toArray, List.set_cons_zero, List.set_cons_succ]) | skip); (first | (refine takeT 10 (v := ?_) rfl (by decide +kernel) (by decide +kernel) (by decide +kernel) (fun _ _ _ h => h) (by decide +kernel) (Or.inl ⟨by rfl, ?_⟩) ?_; rotate_left 1; (focus (intro W hW; have hcW := hW.at; (try dsimp only at hcW); go_simp; first | done | with_reducible rfl)); try simp only [Act.put, List.setIfInBounds_toArray, List.set_cons_zero, List.set_cons_succ]) | (refine takeW 10 (v := ?_) rfl (by decide +kernel) (by decide +kernel) (by decide +kernel) (fun _ _ _ h => h) (Or.inl ⟨by rfl, ?_⟩) ?_; rotate_left 1; (focus (intro W hW; go_simp; first | done | with_reducible rfl)); try simp only [Act.put, List.setIfInBounds_toArray, List.set_cons_zero, List.set_cons_succ]) | (refine takeW 10 rfl (by decide +kernel) (by decide +kernel) (by decide +kernel) (fun _ _ _ h => h) (Or.inr ⟨by rfl, rfl⟩) ?_; try simp only [Act.put, List.setIfInBounds_toArray, List.set_cons_zero, List.set_cons_succ]) | skip); (first | (refine takeT 11 (v := ?_) rfl (by decide +kernel) (by decide +kernel) (by decide +kernel) (fun _ _ _ h => h) (by decide +kernel) (Or.inl ⟨by rfl, ?_⟩) ?_; rotate_left 1; (focus (intro W hW; have hcW := hW.at; (try dsimp only at hcW); go_simp; first | done | with_reducible rfl)); try simp only [Act.put, List.setIfInBounds_toArray, List.set_cons_zero, List.set_cons_succ]) | (refine takeW 11 (v := ?_) rfl (by decide +kernel) (by decide +kernel) (by decide +kernel) (fun _ _ _ h => h) (Or.inl ⟨by rfl, ?_⟩) ?_; rotate_left 1; (focus (intro W hW; go_simp; first | done | with_reducible rfl)); try simp only [Act.put, List.setIfInBounds_toArray, List.set_cons_zero, List.set_cons_succ]) | (refine takeW 11 rfl (by decide +kernel) (by decide +kernel) (by decide +kernel) (fun _ _ _ h => h) (Or.inr ⟨by rfl, rfl⟩) ?_; try simp only [Act.put, List.setIfInBounds_toArray, List.set_cons_zero, List.set_cons_succ]) | skip))
            obtain ⟨Aa, ca, Af2, cf2, A2', c2', A3', c3', rfl, hw1, hw2, hw3, hw4, hw5, hw6⟩ := hw.out
            have hH := Lib.hid (hw3.rdl.mono (G := fun k => k ≠ g10 ∧ k ≠ g11) fun k hk => hk.elim (fun h => by have := l10.out; have := l11.out; have h1 : k < y.heap.size := h.1; omega) (fun h => ⟨fun e => n10.out (by rw [← e]; exact (hw6 k).2 (.inl h)), fun e => n11.out (by rw [← e]; exact (hw6 k).2 (.inl h))⟩))
            have hS := Lib.hid (hw4.rdl.mono (G := fun k => k ≠ g10 ∧ k ≠ g11) fun k hk => hk.elim (fun h => by have := l10.out; have := l11.out; have h1 : k < y.heap.size := h.1; omega) (fun h => ⟨fun e => n10.out (by rw [← e]; exact (hw6 k).2 (.inr h)), fun e => n11.out (by rw [← e]; exact (hw6 k).2 (.inr h))⟩))
            have hA := Lib.hid (ra.out.mono (G := fun k => k ≠ g10 ∧ k ≠ g11) fun k hk => by have := l10.out; have := l11.out; have h1 : k < y.heap.size := hk.1; omega)
            have ne2 := Lib.hid (show g10 ≠ g11 from ne.out)
            clear hw1 hw2 hw3 hw4 hw5 hw6 hw ra
            refine stepT 14 rfl (by decide +kernel) (by rfl) ?_
            intro K hK
            refine wp_storeB flatRw (.tmp 10) (.tmp 52) rfl g10 rfl _ rfl b10.out rfl rfl rfl ?_
            intro z1 k1 hg1 hs1
            refine hK _ _ (.inl (by decide)) ?_
            clear hK K
            try simp only [Act.put, List.setIfInBounds_toArray, List.set_cons_zero, List.set_cons_succ]
            have b11z := grown_block hg1 b11.out (fun e => ne2.out (by injection e with e; exact e.symm))
            replace hH := Lib.hid (hH.out.grown hg1 (fun k hk => hk.1) (by decide))
            replace hS := Lib.hid (hS.out.grown hg1 (fun k hk => hk.1) (by decide))
            replace hA := Lib.hid (hA.out.grown hg1 fun k hk => hk.1)
            replace hb := Lib.hid (below_grown hb.out hg1 hb.out.size l10.out)
            have K1 := Lib.hid k1
            clear k1 hg1 hs1
            refine stepT 15 rfl (by decide +kernel) (by rfl) ?_
            intro K hK
            refine wp_storeB flatPk (.tmp 11) (.tmp 53) rfl g11 rfl _ rfl b11z rfl rfl rfl ?_
            intro z2 k2 hg2 hs2
            refine hK _ _ (.inl (by decide)) ?_
            clear hK K
            try simp only [Act.put, List.setIfInBounds_toArray, List.set_cons_zero, List.set_cons_succ]
            ((first | (refine takeT 16 (v := ?_) rfl (by decide +kernel) (by decide +kernel) (by decide +kernel) (fun _ _ _ h => h) (by decide +kernel) (Or.inl ⟨by rfl, ?_⟩) ?_; rotate_left 1; (focus (intro W hW; have hcW := hW.at; (try dsimp only at hcW); go_simp; first | done | with_reducible rfl)); try simp only [Act.put, List.setIfInBounds_toArray, List.set_cons_zero, List.set_cons_succ]) | (refine takeW 16 (v := ?_) rfl (by decide +kernel) (by decide +kernel) (by decide +kernel) (fun _ _ _ h => h) (Or.inl ⟨by rfl, ?_⟩) ?_; rotate_left 1; (focus (intro W hW; go_simp; first | done | with_reducible rfl)); try simp only [Act.put, List.setIfInBounds_toArray, List.set_cons_zero, List.set_cons_succ]) | (refine takeW 16 rfl (by decide +kernel) (by decide +kernel) (by decide +kernel) (fun _ _ _ h => h) (Or.inr ⟨by rfl, rfl⟩) ?_; try simp only [Act.put, List.setIfInBounds_toArray, List.set_cons_zero, List.set_cons_succ]) | skip))
            refine doneT (by kernel_rfl) ?_
            refine ⟨g10, g11, Aa, ca, Af2, cf2, A2', c2', A3', c3', A', c', _, _, _, _, _, _, _, _, _, _, _, _, rfl, grown_block hg2 K1.out (fun e => ne2.out (by injection e)), k2, ?_⟩
            exact ⟨(hA.out.grown hg2 fun k hk => hk.2).mono fun _ _ => trivial, (hH.out.grown hg2 (fun k hk => hk.2) (by decide)).mono fun _ _ => trivial, (hS.out.grown hg2 (fun k hk => hk.2) (by decide)).mono fun _ _ => trivial, below_grown hb.out hg2 hb.out.size l11.out⟩
        · clear hi
          refine ⟨_, rfl, by rfl, ?_⟩
          intro K hK
          go_simp
          have bb := (Below.refl x0.heap.size x0).alloc (Nat.le_refl _) pkZ
          have sm := smBlk (b1 := w.heap.size) (b2 := w.heap.size + 1) bb (by have := hb.out.size; have := HN7.out; have := hN2.out; omega) (by have := hb.out.size; have := HN7.out; have := hN2.out; omega)
          have l11 := Lib.hid hb.out.size
          have b11 := Lib.hid (alloc1 x0 pkZ)
          replace hb := Lib.hid (hb.out.trans (bb.mono hb.out.size))
          refine hK _ _ (.inr sm) ?_
          clear hK K sm bb
          try simp only [Act.put, List.setIfInBounds_toArray, List.set_cons_zero, List.set_cons_succ]
          generalize x0.alloc pkZ = u26 at b11 l11 hb ⊢
          generalize x0.heap.size = g11 at b11 l11 hb ⊢
          refine stepTA [4, 12] (by decide +kernel) (by decide) ?_
          intro i hi
          rcases (by simpa using hi : i = 4 ∨ i = 12) with rfl | rfl
          · clear hi
            refine ⟨_, rfl, by rfl, ?_⟩
            intro K hK
            go_simp
            refine (KF.out u26 hb.out).mono ?_
            rintro e u27 ⟨v, rfl, ho, bb⟩
            obtain ⟨Af, cf, rfl, hf⟩ := RdS.of_own ho
            have sm := smBlk (b1 := w.heap.size) (b2 := w.heap.size + 1) bb (by have := hb.out.size; have := HN7.out; have := hN2.out; omega) (by have := hb.out.size; have := HN7.out; have := hN2.out; omega)
            replace b11 := Lib.hid ((bb.block _ (block_lt b11.out)).trans b11.out)
            replace hb := Lib.hid (hb.out.trans (bb.mono hb.out.size))
            refine hK _ _ (.inr sm) ?_
            clear hK K sm bb ho
            try simp only [Act.put, List.setIfInBounds_toArray, List.set_cons_zero, List.set_cons_succ]
            have hyM := Lib.hid hb.out.size
            have hM := Lib.hid (Nat.le_refl u27.heap.size)
            replace hf := Lib.hid (hf.mono (G := fun k => k < u27.heap.size) fun k hk => hk.2)
            obtain ⟨M, hMe⟩ : ∃ M, u27.heap.size = M := ⟨_, rfl⟩
            rw [hMe] at hyM hf
            replace hM := Lib.hid (Nat.le_of_eq hMe.symm)
            clear hMe
            ((first | (refine takeT 5 (v := ?_) rfl (by decide +kernel) (by decide +kernel) (by decide +kernel) (fun _ _ _ h => h) (by decide +kernel) (Or.inl ⟨by rfl, ?_⟩) ?_; rotate_left 1; (focus (intro W hW; have hcW := hW.at; (try dsimp only at hcW); go_simp; first | done | with_reducible rfl)); try simp only [Act.put, List.setIfInBounds_toArray, List.set_cons_zero, List.set_cons_succ]) | (refine takeW 5 (v := ?_) rfl (by decide +kernel) (by decide +kernel) (by decide +kernel) (fun _ _ _ h => h) (Or.inl ⟨by rfl, ?_⟩) ?_; rotate_left 1; (focus (intro W hW; go_simp; first | done | with_reducible rfl)); try simp only [Act.put, List.setIfInBounds_toArray, List.set_cons_zero, List.set_cons_succ]) | (refine takeW 5 rfl (by decide +kernel) (by decide +kernel) (by decide +kernel) (fun _ _ _ h => h) (Or.inr ⟨by rfl, rfl⟩) ?_; try simp only [Act.put, List.setIfInBounds_toArray, List.set_cons_zero, List.set_cons_succ]) | skip))
            refine stepTA [7, 12] (by decide +kernel) (by decide) ?_
            intro i hi
            rcases (by simpa using hi : i = 7 ∨ i = 12) with rfl | rfl
            · clear hi
              refine ⟨_, rfl, by rfl, ?_⟩
              intro K hK
              go_simp
              refine (KRS.out u27 M hM.out hyM.out hb.out Af cf hf.out).mono ?_
              rintro e u28 ⟨v', F', A', c', rfl, ra, hw, hm⟩
              have bb := hm.belowN (N := u27.heap.size) (fun k hk => hk.elim) (Nat.le_refl _)
              have sm := smBlk (b1 := w.heap.size) (b2 := w.heap.size + 1) bb (by have := hb.out.size; have := HN7.out; have := hN2.out; omega) (by have := hb.out.size; have := HN7.out; have := hN2.out; omega)
              have n11 := Lib.hid (show ¬ F' g11 from fun hf => (hm.new _ hf).elim (fun h => h) (fun h => by have := block_lt b11.out; omega))
              replace b11 := Lib.hid ((bb.block _ (block_lt b11.out)).trans b11.out)
              replace hb := Lib.hid (hb.out.trans (bb.mono hb.out.size))
              replace hM := Lib.hid (Nat.le_trans hM.out bb.size)
              replace ra := Lib.hid ra
              replace hw := Lib.hid hw
              refine hK _ _ (.inr sm) ?_
              clear hK K sm bb hm hf
              try simp only [Act.put, List.setIfInBounds_toArray, List.set_cons_zero, List.set_cons_succ]
              ((first | (refine takeT 8 (v := ?_) rfl (by decide +kernel) (by decide +kernel) (by decide +kernel) (fun _ _ _ h => h) (by decide +kernel) (Or.inl ⟨by rfl, ?_⟩) ?_; rotate_left 1; (focus (intro W hW; have hcW := hW.at; (try dsimp only at hcW); go_simp; first | done | with_reducible rfl)); try simp only [Act.put, List.setIfInBounds_toArray, List.set_cons_zero, List.set_cons_succ]) | (refine takeW 8 (v := ?_) rfl (by decide +kernel) (by decide +kernel) (by decide +kernel) (fun _ _ _ h => h) (Or.inl ⟨by rfl, ?_⟩) ?_; rotate_left 1; (focus (intro W hW; go_simp; first | done | with_reducible rfl)); try simp only [Act.put, List.setIfInBounds_toArray, List.set_cons_zero, List.set_cons_succ]) | (refine takeW 8 rfl (by decide +kernel) (by decide +kernel) (by decide +kernel) (fun _ _ _ h => h) (Or.inr ⟨by rfl, rfl⟩) ?_; try simp only [Act.put, List.setIfInBounds_toArray, List.set_cons_zero, List.set_cons_succ]) | skip); (first | (refine takeT 9 (v := ?_) rfl (by decide +kernel) (by decide +kernel) (by decide +kernel) (fun _ _ _ h => h) (by decide +kernel) (Or.inl ⟨by rfl, ?_⟩) ?_; rotate_left 1; (focus (intro W hW; have hcW := hW.at; (try dsimp only at hcW); go_simp; first | done | with_reducible rfl)); try simp only [Act.put, List.setIfInBounds_toArray, List.set_cons_zero, List.set_cons_succ]) | (refine takeW 9 (v := ?_) rfl (by decide +kernel) (by decide +kernel) (by decide +kernel) (fun _ _ _ h => h) (Or.inl ⟨by rfl, ?_⟩) ?_; rotate_left 1; (focus (intro W hW; go_simp; first | done | with_reducible rfl)); try simp only [Act.put, List.setIfInBounds_toArray, List.set_cons_zero, List.set_cons_succ]) | (refine takeW 9 rfl (by decide +kernel) (by decide +kernel) (by decide +kernel) (fun _ _ _ h => h) (Or.inr ⟨by rfl, rfl⟩) ?_; try simp only [Act.put, List.setIfInBounds_toArray, List.set_cons_zero, List.set_cons_succ]) | skip); (first | (refine takeT 10 (v := ?_) rfl (by decide +kernel) (by decide +kernel) (by decide +kernel) (fun _ _ _ h => h) (by decide +kernel) (Or.inl ⟨by rfl, ?_⟩) ?_; rotate_left 1; (focus (intro W hW; have hcW := hW.at; (try dsimp only at hcW); go_simp; first | done | with_reducible rfl)); try simp only [Act.put, List.setIfInBounds_toArray, List.set_cons_zero, List.set_cons_succ]) | (refine takeW 10 (v := ?_) rfl (by decide +kernel) (by decide +kernel) (by decide +kernel) (fun _ _ _ h => h) (Or.inl ⟨by rfl, ?_⟩) ?_; rotate_left 1; (focus (intro W hW; go_simp; first | done | with_reducible rfl)); try simp only [Act.put, List.setIfInBounds_toArray, List.set_cons_zero, List.set_cons_succ]) | (refine takeW 10 rfl (by decide +kernel) (by decide +kernel) (by decide +kernel) (fun _ _ _ h => h) (Or.inr ⟨by rfl, rfl⟩) ?_; try simp only [Act.put, List.setIfInBounds_toArray, List.set_cons_zero, List.set_cons_succ]) | skip); (first | (refine takeT 11 (v := ?_) rfl (by decide +kernel) (by decide +kernel) (by decide +kernel) (fun _ _ _ h => h) (by decide +kernel) (Or.inl ⟨by rfl, ?_⟩) ?_; rotate_left 1; (focus (intro W hW; have hcW := hW.at; (try dsimp only at hcW); go_simp; first | done | with_reducible rfl)); try simp only [Act.put, List.setIfInBounds_toArray, List.set_cons_zero, List.set_cons_succ]) | (refine takeW 11 (v := ?_) rfl (by decide +kernel) (by decide +kernel) (by decide +kernel) (fun _ _ _ h => h) (Or.inl ⟨by rfl, ?_⟩) ?_; rotate_left 1; (focus (intro W hW; go_simp; first | done | with_reducible rfl)); try simp only [Act.put, List.setIfInBounds_toArray, List.set_cons_zero, List.set_cons_succ]) | (refine takeW 11 rfl (by decide +kernel) (by decide +kernel) (by decide +kernel) (fun _ _ _ h => h) (Or.inr ⟨by rfl, rfl⟩) ?_; try simp only [Act.put, List.setIfInBounds_toArray, List.set_cons_zero, List.set_cons_succ]) | skip))
              refine stepTA [12] (by decide +kernel) (by decide) ?_
              intro i hi
              obtain rfl : i = 12 := by simpa using hi
              clear hi
              refine ⟨_, rfl, by rfl, ?_⟩
              intro K hK
              go_simp
              have bb := (Below.refl u28.heap.size u28).alloc (Nat.le_refl _) (.cells #[.slice none 0 0, .slice none 0 0, .slice none 0 0, .slice none 0 0] 67)
              have sm := smBlk (b1 := w.heap.size) (b2 := w.heap.size + 1) bb (by have := hb.out.size; have := HN7.out; have := hN2.out; omega) (by have := hb.out.size; have := HN7.out; have := hN2.out; omega)
              have l10 := Lib.hid hb.out.size
              have ne := Lib.hid (show g11 ≠ u28.heap.size from fun e => by have := block_lt b11.out; omega)
              replace b11 := Lib.hid ((bb.block _ (block_lt b11.out)).trans b11.out)
              have b10 := Lib.hid (alloc1 u28 (.cells #[.slice none 0 0, .slice none 0 0, .slice none 0 0, .slice none 0 0] 67))
              have n10 := Lib.hid (show ¬ F' u28.heap.size from fun hf => by have := ((rwA _ _ _).ge hw.out _ hf).2; omega)
              replace hw := Lib.hid (Asr.below hw.out bb hM.out)
              replace ra := Lib.hid (ra.out.keep (w' := u28.alloc (.cells #[.slice none 0 0, .slice none 0 0, .slice none 0 0, .slice none 0 0] 67)) fun k hk => bb.block k (Nat.lt_of_lt_of_le hk.2 hM.out))
              replace hb := Lib.hid (hb.out.trans (bb.mono hb.out.size))
              replace hM := Lib.hid (Nat.le_trans hM.out bb.size)
              refine hK _ _ (.inr sm) ?_
              clear hK K sm bb
              try simp only [Act.put, List.setIfInBounds_toArray, List.set_cons_zero, List.set_cons_succ]
              generalize u28.alloc (.cells #[.slice none 0 0, .slice none 0 0, .slice none 0 0, .slice none 0 0] 67) = u29 at b10 l10 hb ne b11 n10 hw ra hM ⊢
              generalize u28.heap.size = g10 at b10 l10 hb ne b11 n10 hw ra hM ⊢
              obtain ⟨Aa, ca, Af2, cf2, A2', c2', A3', c3', rfl, hw1, hw2, hw3, hw4, hw5, hw6⟩ := hw.out
              have hH := Lib.hid (hw3.rdl.mono (G := fun k => k ≠ g10 ∧ k ≠ g11) fun k hk => hk.elim (fun h => by have := l10.out; have := l11.out; have h1 : k < y.heap.size := h.1; omega) (fun h => ⟨fun e => n10.out (by rw [← e]; exact (hw6 k).2 (.inl h)), fun e => n11.out (by rw [← e]; exact (hw6 k).2 (.inl h))⟩))
              have hS := Lib.hid (hw4.rdl.mono (G := fun k => k ≠ g10 ∧ k ≠ g11) fun k hk => hk.elim (fun h => by have := l10.out; have := l11.out; have h1 : k < y.heap.size := h.1; omega) (fun h => ⟨fun e => n10.out (by rw [← e]; exact (hw6 k).2 (.inr h)), fun e => n11.out (by rw [← e]; exact (hw6 k).2 (.inr h))⟩))
              have hA := Lib.hid (ra.out.mono (G := fun k => k ≠ g10 ∧ k ≠ g11) fun k hk => by have := l10.out; have := l11.out; have h1 : k < y.heap.size := hk.1; omega)
              have ne2 := Lib.hid (show g10 ≠ g11 from (fun e => ne.out e.symm))
              clear hw1 hw2 hw3 hw4 hw5 hw6 hw ra
              refine stepT 14 rfl (by decide +kernel) (by rfl) ?_
              intro K hK
              refine wp_storeB flatRw (.tmp 10) (.tmp 52) rfl g10 rfl _ rfl b10.out rfl rfl rfl ?_
              intro z1 k1 hg1 hs1
              refine hK _ _ (.inl (by decide)) ?_
              clear hK K
              try simp only [Act.put, List.setIfInBounds_toArray, List.set_cons_zero, List.set_cons_succ]
              have b11z := grown_block hg1 b11.out (fun e => ne2.out (by injection e with e; exact e.symm))
              replace hH := Lib.hid (hH.out.grown hg1 (fun k hk => hk.1) (by decide))
              replace hS := Lib.hid (hS.out.grown hg1 (fun k hk => hk.1) (by decide))
              replace hA := Lib.hid (hA.out.grown hg1 fun k hk => hk.1)
              replace hb := Lib.hid (below_grown hb.out hg1 hb.out.size l10.out)
              have K1 := Lib.hid k1
              clear k1 hg1 hs1
              refine stepT 15 rfl (by decide +kernel) (by rfl) ?_
              intro K hK
              refine wp_storeB flatPk (.tmp 11) (.tmp 53) rfl g11 rfl _ rfl b11z rfl rfl rfl ?_
              intro z2 k2 hg2 hs2
              refine hK _ _ (.inl (by decide)) ?_
              clear hK K
              try simp only [Act.put, List.setIfInBounds_toArray, List.set_cons_zero, List.set_cons_succ]
              ((first | (refine takeT 16 (v := ?_) rfl (by decide +kernel) (by decide +kernel) (by decide +kernel) (fun _ _ _ h => h) (by decide +kernel) (Or.inl ⟨by rfl, ?_⟩) ?_; rotate_left 1; (focus (intro W hW; have hcW := hW.at; (try dsimp only at hcW); go_simp; first | done | with_reducible rfl)); try simp only [Act.put, List.setIfInBounds_toArray, List.set_cons_zero, List.set_cons_succ]) | (refine takeW 16 (v := ?_) rfl (by decide +kernel) (by decide +kernel) (by decide +kernel) (fun _ _ _ h => h) (Or.inl ⟨by rfl, ?_⟩) ?_; rotate_left 1; (focus (intro W hW; go_simp; first | done | with_reducible rfl)); try simp only [Act.put, List.setIfInBounds_toArray, List.set_cons_zero, List.set_cons_succ]) | (refine takeW 16 rfl (by decide +kernel) (by decide +kernel) (by decide +kernel) (fun _ _ _ h => h) (Or.inr ⟨by rfl, rfl⟩) ?_; try simp only [Act.put, List.setIfInBounds_toArray, List.set_cons_zero, List.set_cons_succ]) | skip))
              refine doneT (by kernel_rfl) ?_
              refine ⟨g10, g11, Aa, ca, Af2, cf2, A2', c2', A3', c3', A', c', _, _, _, _, _, _, _, _, _, _, _, _, rfl, grown_block hg2 K1.out (fun e => ne2.out (by injection e)), k2, ?_⟩
              exact ⟨(hA.out.grown hg2 fun k hk => hk.2).mono fun _ _ => trivial, (hH.out.grown hg2 (fun k hk => hk.2) (by decide)).mono fun _ _ => trivial, (hS.out.grown hg2 (fun k hk => hk.2) (by decide)).mono fun _ _ => trivial, below_grown hb.out hg2 hb.out.size l11.out⟩
            · clear hi
              refine ⟨_, rfl, by rfl, ?_⟩
              intro K hK
              go_simp
              have bb := (Below.refl u27.heap.size u27).alloc (Nat.le_refl _) (.cells #[.slice none 0 0, .slice none 0 0, .slice none 0 0, .slice none 0 0] 67)
              have sm := smBlk (b1 := w.heap.size) (b2 := w.heap.size + 1) bb (by have := hb.out.size; have := HN7.out; have := hN2.out; omega) (by have := hb.out.size; have := HN7.out; have := hN2.out; omega)
              have l10 := Lib.hid hb.out.size
              have ne := Lib.hid (show g11 ≠ u27.heap.size from fun e => by have := block_lt b11.out; omega)
              replace b11 := Lib.hid ((bb.block _ (block_lt b11.out)).trans b11.out)
              have b10 := Lib.hid (alloc1 u27 (.cells #[.slice none 0 0, .slice none 0 0, .slice none 0 0, .slice none 0 0] 67))
              replace hf := Lib.hid (hf.out.keep (w' := u27.alloc (.cells #[.slice none 0 0, .slice none 0 0, .slice none 0 0, .slice none 0 0] 67)) fun k hk => bb.block k (Nat.lt_of_lt_of_le hk hM.out))
              replace hb := Lib.hid (hb.out.trans (bb.mono hb.out.size))
              replace hM := Lib.hid (Nat.le_trans hM.out bb.size)
              refine hK _ _ (.inr sm) ?_
              clear hK K sm bb
              try simp only [Act.put, List.setIfInBounds_toArray, List.set_cons_zero, List.set_cons_succ]
              generalize u27.alloc (.cells #[.slice none 0 0, .slice none 0 0, .slice none 0 0, .slice none 0 0] 67) = u30 at b10 l10 hb ne b11 hf hM ⊢
              generalize u27.heap.size = g10 at b10 l10 hb ne b11 hf hM ⊢
              refine stepTA [7] (by decide +kernel) (by decide) ?_
              intro i hi
              obtain rfl : i = 7 := by simpa using hi
              clear hi
              refine ⟨_, rfl, by rfl, ?_⟩
              intro K hK
              go_simp
              refine (KRS.out u30 M hM.out hyM.out hb.out Af cf hf.out).mono ?_
              rintro e u31 ⟨v', F', A', c', rfl, ra, hw, hm⟩
              have bb := hm.belowN (N := u30.heap.size) (fun k hk => hk.elim) (Nat.le_refl _)
              have sm := smBlk (b1 := w.heap.size) (b2 := w.heap.size + 1) bb (by have := hb.out.size; have := HN7.out; have := hN2.out; omega) (by have := hb.out.size; have := HN7.out; have := hN2.out; omega)
              have n10 := Lib.hid (show ¬ F' g10 from fun hf => (hm.new _ hf).elim (fun h => h) (fun h => by have := block_lt b10.out; omega))
              replace b10 := Lib.hid ((bb.block _ (block_lt b10.out)).trans b10.out)
              have n11 := Lib.hid (show ¬ F' g11 from fun hf => (hm.new _ hf).elim (fun h => h) (fun h => by have := block_lt b11.out; omega))
              replace b11 := Lib.hid ((bb.block _ (block_lt b11.out)).trans b11.out)
              replace hb := Lib.hid (hb.out.trans (bb.mono hb.out.size))
              replace hM := Lib.hid (Nat.le_trans hM.out bb.size)
              replace ra := Lib.hid ra
              replace hw := Lib.hid hw
              refine hK _ _ (.inr sm) ?_
              clear hK K sm bb hm hf
              try simp only [Act.put, List.setIfInBounds_toArray, List.set_cons_zero, List.set_cons_succ]
              ((first | (refine takeT 8 (v := ?_) rfl (by decide +kernel) (by decide +kernel) (by decide +kernel) (fun _ _ _ h => h) (by decide +kernel) (Or.inl ⟨by rfl, ?_⟩) ?_; rotate_left 1; (focus (intro W hW; have hcW := hW.at; (try dsimp only at hcW); go_simp; first | done | with_reducible rfl)); try simp only [Act.put, List.setIfInBounds_toArray, List.set_cons_zero, List.set_cons_succ]) | (refine takeW 8 (v := ?_) rfl (by decide +kernel) (by decide +kernel) (by decide +kernel) (fun _ _ _ h => h) (Or.inl ⟨by rfl, ?_⟩) ?_; rotate_left 1; (focus (intro W hW; go_simp; first | done | with_reducible rfl)); try simp only [Act.put, List.setIfInBounds_toArray, List.set_cons_zero, List.set_cons_succ]) | (refine takeW 8 rfl (by decide +kernel) (by decide +kernel) (by decide +kernel) (fun _ _ _ h => h) (Or.inr ⟨by rfl, rfl⟩) ?_; try simp only [Act.put, List.setIfInBounds_toArray, List.set_cons_zero, List.set_cons_succ]) | skip); (first | (refine takeT 9 (v := ?_) rfl (by decide +kernel) (by decide +kernel) (by decide +kernel) (fun _ _ _ h => h) (by decide +kernel) (Or.inl ⟨by rfl, ?_⟩) ?_; rotate_left 1; (focus (intro W hW; have hcW := hW.at; (try dsimp only at hcW); go_simp; first | done | with_reducible rfl)); try simp only [Act.put, List.setIfInBounds_toArray, List.set_cons_zero, List.set_cons_succ]) | (refine takeW 9 (v := ?_) rfl (by decide +kernel) (by decide +kernel) (by decide +kernel) (fun _ _ _ h => h) (Or.inl ⟨by rfl, ?_⟩) ?_; rotate_left 1; (focus (intro W hW; go_simp; first | done | with_reducible rfl)); try simp only [Act.put, List.setIfInBounds_toArray, List.set_cons_zero, List.set_cons_succ]) | (refine takeW 9 rfl (by decide +kernel) (by decide +kernel) (by decide +kernel) (fun _ _ _ h => h) (Or.inr ⟨by rfl, rfl⟩) ?_; try simp only [Act.put, List.setIfInBounds_toArray, List.set_cons_zero, List.set_cons_succ]) | skip); (first | (refine takeT 10 (v := ?_) rfl (by decide +kernel) (by decide +kernel) (by decide +kernel) (fun _ _ _ h => h) (by decide +kernel) (Or.inl ⟨by rfl, ?_⟩) ?_; rotate_left 1; (focus (intro W hW; have hcW := hW.at; (try dsimp only at hcW); go_simp; first | done | with_reducible rfl)); try simp only [Act.put, List.setIfInBounds_toArray, List.set_cons_zero, List.set_cons_succ]) | (refine takeW 10 (v := ?_) rfl (by decide +kernel) (by decide +kernel) (by decide +kernel) (fun _ _ _ h => h) (Or.inl ⟨by rfl, ?_⟩) ?_; rotate_left 1; (focus (intro W hW; go_simp; first | done | with_reducible rfl)); try simp only [Act.put, List.setIfInBounds_toArray, List.set_cons_zero, List.set_cons_succ]) | (refine takeW 10 rfl (by decide +kernel) (by decide +kernel) (by decide +kernel) (fun _ _ _ h => h) (Or.inr ⟨by rfl, rfl⟩) ?_; try simp only [Act.put, List.setIfInBounds_toArray, List.set_cons_zero, List.set_cons_succ]) | skip); (first | (refine takeT 11 (v := ?_) rfl (by decide +kernel) (by decide +kernel) (by decide +kernel) (fun _ _ _ h => h) (by decide +kernel) (Or.inl ⟨by rfl, ?_⟩) ?_; rotate_left 1; (focus (intro W hW; have hcW := hW.at; (try dsimp only at hcW); go_simp; first | done | with_reducible rfl)); try simp only [Act.put, List.setIfInBounds_toArray, List.set_cons_zero, List.set_cons_succ]) | (refine takeW 11 (v := ?_) rfl (by decide +kernel) (by decide +kernel) (by decide +kernel) (fun _ _ _ h => h) (Or.inl ⟨by rfl, ?_⟩) ?_; rotate_left 1; (focus (intro W hW; go_simp; first | done | with_reducible rfl)); try simp only [Act.put, List.setIfInBounds_toArray, List.set_cons_zero, List.set_cons_succ]) | (refine takeW 11 rfl (by decide +kernel) (by decide +kernel) (by decide +kernel) (fun _ _ _ h => h) (Or.inr ⟨by rfl, rfl⟩) ?_; try simp only [Act.put, List.setIfInBounds_toArray, List.set_cons_zero, List.set_cons_succ]) | skip))
              obtain ⟨Aa, ca, Af2, cf2, A2', c2', A3', c3', rfl, hw1, hw2, hw3, hw4, hw5, hw6⟩ := hw.out
              have hH := Lib.hid (hw3.rdl.mono (G := fun k => k ≠ g10 ∧ k ≠ g11) fun k hk => hk.elim (fun h => by have := l10.out; have := l11.out; have h1 : k < y.heap.size := h.1; omega) (fun h => ⟨fun e => n10.out (by rw [← e]; exact (hw6 k).2 (.inl h)), fun e => n11.out (by rw [← e]; exact (hw6 k).2 (.inl h))⟩))
              have hS := Lib.hid (hw4.rdl.mono (G := fun k => k ≠ g10 ∧ k ≠ g11) fun k hk => hk.elim (fun h => by have := l10.out; have := l11.out; have h1 : k < y.heap.size := h.1; omega) (fun h => ⟨fun e => n10.out (by rw [← e]; exact (hw6 k).2 (.inr h)), fun e => n11.out (by rw [← e]; exact (hw6 k).2 (.inr h))⟩))
              have hA := Lib.hid (ra.out.mono (G := fun k => k ≠ g10 ∧ k ≠ g11) fun k hk => by have := l10.out; have := l11.out; have h1 : k < y.heap.size := hk.1; omega)
              have ne2 := Lib.hid (show g10 ≠ g11 from (fun e => ne.out e.symm))
              clear hw1 hw2 hw3 hw4 hw5 hw6 hw ra
              refine stepT 14 rfl (by decide +kernel) (by rfl) ?_
              intro K hK
              refine wp_storeB flatRw (.tmp 10) (.tmp 52) rfl g10 rfl _ rfl b10.out rfl rfl rfl ?_
              intro z1 k1 hg1 hs1
              refine hK _ _ (.inl (by decide)) ?_
              clear hK K
              try simp only [Act.put, List.setIfInBounds_toArray, List.set_cons_zero, List.set_cons_succ]
              have b11z := grown_block hg1 b11.out (fun e => ne2.out (by injection e with e; exact e.symm))
              replace hH := Lib.hid (hH.out.grown hg1 (fun k hk => hk.1) (by decide))
              replace hS := Lib.hid (hS.out.grown hg1 (fun k hk => hk.1) (by decide))
              replace hA := Lib.hid (hA.out.grown hg1 fun k hk => hk.1)
              replace hb := Lib.hid (below_grown hb.out hg1 hb.out.size l10.out)
              have K1 := Lib.hid k1
              clear k1 hg1 hs1
              refine stepT 15 rfl (by decide +kernel) (by rfl) ?_
              intro K hK
              refine wp_storeB flatPk (.tmp 11) (.tmp 53) rfl g11 rfl _ rfl b11z rfl rfl rfl ?_
              intro z2 k2 hg2 hs2
              refine hK _ _ (.inl (by decide)) ?_
              clear hK K
              try simp only [Act.put, List.setIfInBounds_toArray, List.set_cons_zero, List.set_cons_succ]
              ((first | (refine takeT 16 (v := ?_) rfl (by decide +kernel) (by decide +kernel) (by decide +kernel) (fun _ _ _ h => h) (by decide +kernel) (Or.inl ⟨by rfl, ?_⟩) ?_; rotate_left 1; (focus (intro W hW; have hcW := hW.at; (try dsimp only at hcW); go_simp; first | done | with_reducible rfl)); try simp only [Act.put, List.setIfInBounds_toArray, List.set_cons_zero, List.set_cons_succ]) | (refine takeW 16 (v := ?_) rfl (by decide +kernel) (by decide +kernel) (by decide +kernel) (fun _ _ _ h => h) (Or.inl ⟨by rfl, ?_⟩) ?_; rotate_left 1; (focus (intro W hW; go_simp; first | done | with_reducible rfl)); try simp only [Act.put, List.setIfInBounds_toArray, List.set_cons_zero, List.set_cons_succ]) | (refine takeW 16 rfl (by decide +kernel) (by decide +kernel) (by decide +kernel) (fun _ _ _ h => h) (Or.inr ⟨by rfl, rfl⟩) ?_; try simp only [Act.put, List.setIfInBounds_toArray, List.set_cons_zero, List.set_cons_succ]) | skip))
              refine doneT (by kernel_rfl) ?_
              refine ⟨g10, g11, Aa, ca, Af2, cf2, A2', c2', A3', c3', A', c', _, _, _, _, _, _, _, _, _, _, _, _, rfl, grown_block hg2 K1.out (fun e => ne2.out (by injection e)), k2, ?_⟩
              exact ⟨(hA.out.grown hg2 fun k hk => hk.2).mono fun _ _ => trivial, (hH.out.grown hg2 (fun k hk => hk.2) (by decide)).mono fun _ _ => trivial, (hS.out.grown hg2 (fun k hk => hk.2) (by decide)).mono fun _ _ => trivial, below_grown hb.out hg2 hb.out.size l11.out⟩
          · clear hi
            refine ⟨_, rfl, by rfl, ?_⟩
            intro K hK
            go_simp
            have bb := (Below.refl u26.heap.size u26).alloc (Nat.le_refl _) (.cells #[.slice none 0 0, .slice none 0 0, .slice none 0 0, .slice none 0 0] 67)
            have sm := smBlk (b1 := w.heap.size) (b2 := w.heap.size + 1) bb (by have := hb.out.size; have := HN7.out; have := hN2.out; omega) (by have := hb.out.size; have := HN7.out; have := hN2.out; omega)
            have l10 := Lib.hid hb.out.size
            have ne := Lib.hid (show g11 ≠ u26.heap.size from fun e => by have := block_lt b11.out; omega)
            replace b11 := Lib.hid ((bb.block _ (block_lt b11.out)).trans b11.out)
            have b10 := Lib.hid (alloc1 u26 (.cells #[.slice none 0 0, .slice none 0 0, .slice none 0 0, .slice none 0 0] 67))
            replace hb := Lib.hid (hb.out.trans (bb.mono hb.out.size))
            refine hK _ _ (.inr sm) ?_
            clear hK K sm bb
            try simp only [Act.put, List.setIfInBounds_toArray, List.set_cons_zero, List.set_cons_succ]
            generalize u26.alloc (.cells #[.slice none 0 0, .slice none 0 0, .slice none 0 0, .slice none 0 0] 67) = u32 at b10 l10 hb ne b11 ⊢
            generalize u26.heap.size = g10 at b10 l10 hb ne b11 ⊢
            refine stepTA [4] (by decide +kernel) (by decide) ?_
            intro i hi
            obtain rfl : i = 4 := by simpa using hi
            clear hi
            refine ⟨_, rfl, by rfl, ?_⟩
            intro K hK
            go_simp
            refine (KF.out u32 hb.out).mono ?_
            rintro e u33 ⟨v, rfl, ho, bb⟩
            obtain ⟨Af, cf, rfl, hf⟩ := RdS.of_own ho
            have sm := smBlk (b1 := w.heap.size) (b2 := w.heap.size + 1) bb (by have := hb.out.size; have := HN7.out; have := hN2.out; omega) (by have := hb.out.size; have := HN7.out; have := hN2.out; omega)
            replace b10 := Lib.hid ((bb.block _ (block_lt b10.out)).trans b10.out)
            replace b11 := Lib.hid ((bb.block _ (block_lt b11.out)).trans b11.out)
            replace hb := Lib.hid (hb.out.trans (bb.mono hb.out.size))
            refine hK _ _ (.inr sm) ?_
            clear hK K sm bb ho
            try simp only [Act.put, List.setIfInBounds_toArray, List.set_cons_zero, List.set_cons_succ]
            have hyM := Lib.hid hb.out.size
            have hM := Lib.hid (Nat.le_refl u33.heap.size)
            replace hf := Lib.hid (hf.mono (G := fun k => k < u33.heap.size) fun k hk => hk.2)
            obtain ⟨M, hMe⟩ : ∃ M, u33.heap.size = M := ⟨_, rfl⟩
            rw [hMe] at hyM hf
            replace hM := Lib.hid (Nat.le_of_eq hMe.symm)
            clear hMe
            ((first | (refine takeT 5 (v := ?_) rfl (by decide +kernel) (by decide +kernel) (by decide +kernel) (fun _ _ _ h => h) (by decide +kernel) (Or.inl ⟨by rfl, ?_⟩) ?_; rotate_left 1; (focus (intro W hW; have hcW := hW.at; (try dsimp only at hcW); go_simp; first | done | with_reducible rfl)); try simp only [Act.put, List.setIfInBounds_toArray, List.set_cons_zero, List.set_cons_succ]) | (refine takeW 5 (v := ?_) rfl (by decide +kernel) (by decide +kernel) (by decide +kernel) (fun _ _ _ h => h) (Or.inl ⟨by rfl, ?_⟩) ?_; rotate_left 1; (focus (intro W hW; go_simp; first | done | with_reducible rfl)); try simp only [Act.put, List.setIfInBounds_toArray, List.set_cons_zero, List.set_cons_succ]) | (refine takeW 5 rfl (by decide +kernel) (by decide +kernel) (by decide +kernel) (fun _ _ _ h => h) (Or.inr ⟨by rfl, rfl⟩) ?_; try simp only [Act.put, List.setIfInBounds_toArray, List.set_cons_zero, List.set_cons_succ]) | skip))
            refine stepTA [7] (by decide +kernel) (by decide) ?_
            intro i hi
            obtain rfl : i = 7 := by simpa using hi
            clear hi
            refine ⟨_, rfl, by rfl, ?_⟩
            intro K hK
            go_simp
            refine (KRS.out u33 M hM.out hyM.out hb.out Af cf hf.out).mono ?_
            rintro e u34 ⟨v', F', A', c', rfl, ra, hw, hm⟩
            have bb := hm.belowN (N := u33.heap.size) (fun k hk => hk.elim) (Nat.le_refl _)
            have sm := smBlk (b1 := w.heap.size) (b2 := w.heap.size + 1) bb (by have := hb.out.size; have := HN7.out; have := hN2.out; omega) (by have := hb.out.size; have := HN7.out; have := hN2.out; omega)
            have n10 := Lib.hid (show ¬ F' g10 from fun hf => (hm.new _ hf).elim (fun h => h) (fun h => by have := block_lt b10.out; omega))
            replace b10 := Lib.hid ((bb.block _ (block_lt b10.out)).trans b10.out)
            have n11 := Lib.hid (show ¬ F' g11 from fun hf => (hm.new _ hf).elim (fun h => h) (fun h => by have := block_lt b11.out; omega))
            replace b11 := Lib.hid ((bb.block _ (block_lt b11.out)).trans b11.out)
            replace hb := Lib.hid (hb.out.trans (bb.mono hb.out.size))
            replace hM := Lib.hid (Nat.le_trans hM.out bb.size)
            replace ra := Lib.hid ra
            replace hw := Lib.hid hw
            refine hK _ _ (.inr sm) ?_
            clear hK K sm bb hm hf
            try simp only [Act.put, List.setIfInBounds_toArray, List.set_cons_zero, List.set_cons_succ]
            ((first | (refine takeT 8 (v := ?_) rfl (by decide +kernel) (by decide +kernel) (by decide +kernel) (fun _ _ _ h => h) (by decide +kernel) (Or.inl ⟨by rfl, ?_⟩) ?_; rotate_left 1; (focus (intro W hW; have hcW := hW.at; (try dsimp only at hcW); go_simp; first | done | with_reducible rfl)); try simp only [Act.put, List.setIfInBounds_toArray, List.set_cons_zero, List.set_cons_succ]) | (refine takeW 8 (v := ?_) rfl (by decide +kernel) (by decide +kernel) (by decide +kernel) (fun _ _ _ h => h) (Or.inl ⟨by rfl, ?_⟩) ?_; rotate_left 1; (focus (intro W hW; go_simp; first | done | with_reducible rfl)); try simp only [Act.put, List.setIfInBounds_toArray, List.set_cons_zero, List.set_cons_succ]) | (refine takeW 8 rfl (by decide +kernel) (by decide +kernel) (by decide +kernel) (fun _ _ _ h => h) (Or.inr ⟨by rfl, rfl⟩) ?_; try simp only [Act.put, List.setIfInBounds_toArray, List.set_cons_zero, List.set_cons_succ]) | skip); (first | (refine takeT 9 (v := ?_) rfl (by decide +kernel) (by decide +kernel) (by decide +kernel) (fun _ _ _ h => h) (by decide +kernel) (Or.inl ⟨by rfl, ?_⟩) ?_; rotate_left 1; (focus (intro W hW; have hcW := hW.at; (try dsimp only at hcW); go_simp; first | done | with_reducible rfl)); try simp only [Act.put, List.setIfInBounds_toArray, List.set_cons_zero, List.set_cons_succ]) | (refine takeW 9 (v := ?_) rfl (by decide +kernel) (by decide +kernel) (by decide +kernel) (fun _ _ _ h => h) (Or.inl ⟨by rfl, ?_⟩) ?_; rotate_left 1; (focus (intro W hW; go_simp; first | done | with_reducible rfl)); try simp only [Act.put, List.setIfInBounds_toArray, List.set_cons_zero, List.set_cons_succ]) | (refine takeW 9 rfl (by decide +kernel) (by decide +kernel) (by decide +kernel) (fun _ _ _ h => h) (Or.inr ⟨by rfl, rfl⟩) ?_; try simp only [Act.put, List.setIfInBounds_toArray, List.set_cons_zero, List.set_cons_succ]) | skip); (first | (refine takeT 10 (v := ?_) rfl (by decide +kernel) (by decide +kernel) (by decide +kernel) (fun _ _ _ h => h) (by decide +kernel) (Or.inl ⟨by rfl, ?_⟩) ?_; rotate_left 1; (focus (intro W hW; have hcW := hW.at; (try dsimp only at hcW); go_simp; first | done | with_reducible rfl)); try simp only [Act.put, List.setIfInBounds_toArray, List.set_cons_zero, List.set_cons_succ]) | (refine takeW 10 (v := ?_) rfl (by decide +kernel) (by decide +kernel) (by decide +kernel) (fun _ _ _ h => h) (Or.inl ⟨by rfl, ?_⟩) ?_; rotate_left 1; (focus (intro W hW; go_simp; first | done | with_reducible rfl)); try simp only [Act.put, List.setIfInBounds_toArray, List.set_cons_zero, List.set_cons_succ]) | (refine takeW 10 rfl (by decide +kernel) (by decide +kernel) (by decide +kernel) (fun _ _ _ h => h) (Or.inr ⟨by rfl, rfl⟩) ?_; try simp only [Act.put, List.setIfInBounds_toArray, List.set_cons_zero, List.set_cons_succ]) | skip); (first | (refine takeT 11 (v := ?_) rfl (by decide +kernel) (by decide +kernel) (by decide +kernel) (fun _ _ _ h => h) (by decide +kernel) (Or.inl ⟨by rfl, ?_⟩) ?_; rotate_left 1; (focus (intro W hW; have hcW := hW.at; (try dsimp only at hcW); go_simp; first | done | with_reducible rfl)); try simp only [Act.put, List.setIfInBounds_toArray, List.set_cons_zero, List.set_cons_succ]) | (refine takeW 11 (v := ?_) rfl (by decide +kernel) (by decide +kernel) (by decide +kernel) (fun _ _ _ h => h) (Or.inl ⟨by rfl, ?_⟩) ?_; rotate_left 1; (focus (intro W hW; go_simp; first | done | with_reducible rfl)); try simp only [Act.put, List.setIfInBounds_toArray, List.set_cons_zero, List.set_cons_succ]) | (refine takeW 11 rfl (by decide +kernel) (by decide +kernel) (by decide +kernel) (fun _ _ _ h => h) (Or.inr ⟨by rfl, rfl⟩) ?_; try simp only [Act.put, List.setIfInBounds_toArray, List.set_cons_zero, List.set_cons_succ]) | skip))
            obtain ⟨Aa, ca, Af2, cf2, A2', c2', A3', c3', rfl, hw1, hw2, hw3, hw4, hw5, hw6⟩ := hw.out
            have hH := Lib.hid (hw3.rdl.mono (G := fun k => k ≠ g10 ∧ k ≠ g11) fun k hk => hk.elim (fun h => by have := l10.out; have := l11.out; have h1 : k < y.heap.size := h.1; omega) (fun h => ⟨fun e => n10.out (by rw [← e]; exact (hw6 k).2 (.inl h)), fun e => n11.out (by rw [← e]; exact (hw6 k).2 (.inl h))⟩))
            have hS := Lib.hid (hw4.rdl.mono (G := fun k => k ≠ g10 ∧ k ≠ g11) fun k hk => hk.elim (fun h => by have := l10.out; have := l11.out; have h1 : k < y.heap.size := h.1; omega) (fun h => ⟨fun e => n10.out (by rw [← e]; exact (hw6 k).2 (.inr h)), fun e => n11.out (by rw [← e]; exact (hw6 k).2 (.inr h))⟩))
            have hA := Lib.hid (ra.out.mono (G := fun k => k ≠ g10 ∧ k ≠ g11) fun k hk => by have := l10.out; have := l11.out; have h1 : k < y.heap.size := hk.1; omega)
            have ne2 := Lib.hid (show g10 ≠ g11 from (fun e => ne.out e.symm))
            clear hw1 hw2 hw3 hw4 hw5 hw6 hw ra
            refine stepT 14 rfl (by decide +kernel) (by rfl) ?_
            intro K hK
            refine wp_storeB flatRw (.tmp 10) (.tmp 52) rfl g10 rfl _ rfl b10.out rfl rfl rfl ?_
            intro z1 k1 hg1 hs1
            refine hK _ _ (.inl (by decide)) ?_
            clear hK K
            try simp only [Act.put, List.setIfInBounds_toArray, List.set_cons_zero, List.set_cons_succ]
            have b11z := grown_block hg1 b11.out (fun e => ne2.out (by injection e with e; exact e.symm))
            replace hH := Lib.hid (hH.out.grown hg1 (fun k hk => hk.1) (by decide))
            replace hS := Lib.hid (hS.out.grown hg1 (fun k hk => hk.1) (by decide))
            replace hA := Lib.hid (hA.out.grown hg1 fun k hk => hk.1)
            replace hb := Lib.hid (below_grown hb.out hg1 hb.out.size l10.out)
            have K1 := Lib.hid k1
            clear k1 hg1 hs1
            refine stepT 15 rfl (by decide +kernel) (by rfl) ?_
            intro K hK
            refine wp_storeB flatPk (.tmp 11) (.tmp 53) rfl g11 rfl _ rfl b11z rfl rfl rfl ?_
            intro z2 k2 hg2 hs2
            refine hK _ _ (.inl (by decide)) ?_
            clear hK K
            try simp only [Act.put, List.setIfInBounds_toArray, List.set_cons_zero, List.set_cons_succ]
            ((first | (refine takeT 16 (v := ?_) rfl (by decide +kernel) (by decide +kernel) (by decide +kernel) (fun _ _ _ h => h) (by decide +kernel) (Or.inl ⟨by rfl, ?_⟩) ?_; rotate_left 1; (focus (intro W hW; have hcW := hW.at; (try dsimp only at hcW); go_simp; first | done | with_reducible rfl)); try simp only [Act.put, List.setIfInBounds_toArray, List.set_cons_zero, List.set_cons_succ]) | (refine takeW 16 (v := ?_) rfl (by decide +kernel) (by decide +kernel) (by decide +kernel) (fun _ _ _ h => h) (Or.inl ⟨by rfl, ?_⟩) ?_; rotate_left 1; (focus (intro W hW; go_simp; first | done | with_reducible rfl)); try simp only [Act.put, List.setIfInBounds_toArray, List.set_cons_zero, List.set_cons_succ]) | (refine takeW 16 rfl (by decide +kernel) (by decide +kernel) (by decide +kernel) (fun _ _ _ h => h) (Or.inr ⟨by rfl, rfl⟩) ?_; try simp only [Act.put, List.setIfInBounds_toArray, List.set_cons_zero, List.set_cons_succ]) | skip))
            refine doneT (by kernel_rfl) ?_
            refine ⟨g10, g11, Aa, ca, Af2, cf2, A2', c2', A3', c3', A', c', _, _, _, _, _, _, _, _, _, _, _, _, rfl, grown_block hg2 K1.out (fun e => ne2.out (by injection e)), k2, ?_⟩
            exact ⟨(hA.out.grown hg2 fun k hk => hk.2).mono fun _ _ => trivial, (hH.out.grown hg2 (fun k hk => hk.2) (by decide)).mono fun _ _ => trivial, (hS.out.grown hg2 (fun k hk => hk.2) (by decide)).mono fun _ _ => trivial, below_grown hb.out hg2 hb.out.size l11.out⟩
      · rintro act z ⟨g10, g11, Aa, ca, Af, cf, B2, e2, B3, e3, B4, e4, v43, v44, v45, v46, v47, v48, v49, v50, v51, v52, v53, v54, rfl, k10, k11, ra, hH, hS, hb⟩
        have K10 := Lib.hid k10
        have K11 := Lib.hid k11
        have Ra := Lib.hid ra
        have HH := Lib.hid hH
        have HS := Lib.hid hS
        have Hbz := Lib.hid hb
        clear k10 k11 ra hH hS hb KF KRS d0
        obtain ⟨_, ⟨As, cs, vh, hs1, _, hs3⟩, hs4, hs5⟩ := Hd7.out
        obtain ⟨Ah, ch, rfl, hs6⟩ := hs3.rdl
        have hs2 : s'.2 = x6.heard := by rw [← Hs'.out]
        rw [hs2] at hs1 hs6
        have hy := Hbz.out.size
        have BN := Lib.hid ((Hbz.out.block _ (block_lt hs1)).trans hs1)
        have HD := Lib.hid ((hs6.lt (by decide)).keep (w' := z) fun k hk => Hbz.out.block k hk.2)
        have B7 := Lib.hid ((Hbz.out.block _ (block_lt K7.out)).trans K7.out)
        have R7 := Lib.hid (Hr7.out.below Hbz.out)
        have L7 := Lib.hid (Hl7.out.below Hbz.out (by decide))
        have BP := Lib.hid ((Hbz.out.block _ (block_lt B02.out)).trans B02.out)
        have Hwz := Lib.hid (Hw7.out.trans (Hbz.out.mono Hw7.out.size))
        have KD := Lib.hid fun (X : World) (h1 : RdS (fun _ => True) X A1 c1 a.data) (h2 : RdS (fun _ => True) X B4 e4 a.data) => differ_same X a A1 B4 c1 e4 h1 h2
        have KDS := Lib.hid fun (X : World) (h1 : RdL laySn (fun _ => True) X A2 c2 x6.sent) (h2 : RdL laySn (fun _ => True) X B3 e3 x6.sent) => differS_eq X _ _ A2 B3 c2 e3 x6.sent h1 h2 (by have := Hlen.out.1; simp at this; omega)
        have KDH := Lib.hid fun (X : World) F (h1 : RdL layPk F X Ah ch x6.heard) (h2 : RdL layPk (fun _ => True) X B2 e2 x6.heard) => differ_eq X F _ Ah B2 ch e2 x6.heard h1 h2 (by have := Hlen.out.2; simp at this; omega)
        have t0 := block_lt BP.out
        have t1 := block_lt B7.out
        have t2 := block_lt K10.out
        have t3 := block_lt K11.out
        have t4 := block_lt BN.out
        have T := Lib.hid (show w.heap.size < z.heap.size ∧ g7 < z.heap.size ∧ g10 < z.heap.size ∧ g11 < z.heap.size ∧ N < z.heap.size from ⟨t0, t1, t2, t3, t4⟩)
        clear hs1 hs2 hs3 hs4 hs5 hs6 hy t0 t1 t2 t3 t4
        go_wp2
        refine startTP (S := fun a => a.block = w.heap.size ∨ a.block = g7 ∨ a.block = g10 ∨ a.block = g11 ∨ a.block = N) (T := []) (fun X => Below z.heap.size z X) 33 (by kernel_rfl) rfl (l := #[false, false, false, false, false, false, false, false, false, false, false, false, false, false, false, false, false, false, false, false, false, false, false, false, false, false, false, false, false, false, false, false, false]) rfl (Below.refl _ _).drew ?_
        rintro x0 hb
        have hbk : ∀ {k o}, z.heap[k]? = some o → x0.heap[k]? = some o := fun h => (hb.block _ (block_lt h)).trans h
        have d1 := range_of (hbk B7.out)
        have d2 := range_of (hbk K11.out)
        have d3 := block_at (hbk K10.out) (i := 3) (v := .slice B3 x6.sent.length e3) rfl
        have d4 := block_at (hbk K10.out) (i := 2) (v := .slice B2 x6.heard.length e2) rfl
        have d5 := block_at (hbk BN.out) (i := 1) (v := .slice Ah x6.heard.length ch) rfl
        have d6 := block_at (hbk BP.out) (i := 9) (v := .slice A p.data.length c) rfl
        clear hbk
        ((first | (refine takeT 0 (v := ?_) rfl (by decide +kernel) (by decide +kernel) (by decide +kernel) (fun _ _ _ h => h) (by decide +kernel) (Or.inl ⟨by rfl, ?_⟩) ?_; rotate_left 1; (focus (intro W hW; have hcW := hW.at; (try dsimp only at hcW); go_simp; first | done | with_reducible rfl)); try simp only [Act.put, List.setIfInBounds_toArray, List.set_cons_zero, List.set_cons_succ]) | (refine takeW 0 (v := ?_) rfl (by decide +kernel) (by decide +kernel) (by decide +kernel) (fun _ _ _ h => h) (Or.inl ⟨by rfl, ?_⟩) ?_; rotate_left 1; (focus (intro W hW; go_simp; first | done | with_reducible rfl)); try simp only [Act.put, List.setIfInBounds_toArray, List.set_cons_zero, List.set_cons_succ]) | (refine takeW 0 rfl (by decide +kernel) (by decide +kernel) (by decide +kernel) (fun _ _ _ h => h) (Or.inr ⟨by rfl, rfl⟩) ?_; try simp only [Act.put, List.setIfInBounds_toArray, List.set_cons_zero, List.set_cons_succ]) | skip); (first | (refine takeT 1 (v := ?_) rfl (by decide +kernel) (by decide +kernel) (by decide +kernel) (fun _ _ _ h => h) (by decide +kernel) (Or.inl ⟨by rfl, ?_⟩) ?_; rotate_left 1; (focus (intro W hW; have hcW := hW.at; (try dsimp only at hcW); go_simp; first | done | with_reducible rfl)); try simp only [Act.put, List.setIfInBounds_toArray, List.set_cons_zero, List.set_cons_succ]) | (refine takeW 1 (v := ?_) rfl (by decide +kernel) (by decide +kernel) (by decide +kernel) (fun _ _ _ h => h) (Or.inl ⟨by rfl, ?_⟩) ?_; rotate_left 1; (focus (intro W hW; go_simp; first | done | with_reducible rfl)); try simp only [Act.put, List.setIfInBounds_toArray, List.set_cons_zero, List.set_cons_succ]) | (refine takeW 1 rfl (by decide +kernel) (by decide +kernel) (by decide +kernel) (fun _ _ _ h => h) (Or.inr ⟨by rfl, rfl⟩) ?_; try simp only [Act.put, List.setIfInBounds_toArray, List.set_cons_zero, List.set_cons_succ]) | skip); (first | (refine takeT 2 (v := ?_) rfl (by decide +kernel) (by decide +kernel) (by decide +kernel) (fun _ _ _ h => h) (by decide +kernel) (Or.inl ⟨by rfl, ?_⟩) ?_; rotate_left 1; (focus (intro W hW; have hcW := hW.at; (try dsimp only at hcW); go_simp; first | done | with_reducible rfl)); try simp only [Act.put, List.setIfInBounds_toArray, List.set_cons_zero, List.set_cons_succ]) | (refine takeW 2 (v := ?_) rfl (by decide +kernel) (by decide +kernel) (by decide +kernel) (fun _ _ _ h => h) (Or.inl ⟨by rfl, ?_⟩) ?_; rotate_left 1; (focus (intro W hW; go_simp; first | done | with_reducible rfl)); try simp only [Act.put, List.setIfInBounds_toArray, List.set_cons_zero, List.set_cons_succ]) | (refine takeW 2 rfl (by decide +kernel) (by decide +kernel) (by decide +kernel) (fun _ _ _ h => h) (Or.inr ⟨by rfl, rfl⟩) ?_; try simp only [Act.put, List.setIfInBounds_toArray, List.set_cons_zero, List.set_cons_succ]) | skip); (first | (refine takeT 3 (v := ?_) rfl (by decide +kernel) (by decide +kernel) (by decide +kernel) (fun _ _ _ h => h) (by decide +kernel) (Or.inl ⟨by rfl, ?_⟩) ?_; rotate_left 1; (focus (intro W hW; have hcW := hW.at; (try dsimp only at hcW); go_simp; first | done | with_reducible rfl)); try simp only [Act.put, List.setIfInBounds_toArray, List.set_cons_zero, List.set_cons_succ]) | (refine takeW 3 (v := ?_) rfl (by decide +kernel) (by decide +kernel) (by decide +kernel) (fun _ _ _ h => h) (Or.inl ⟨by rfl, ?_⟩) ?_; rotate_left 1; (focus (intro W hW; go_simp; first | done | with_reducible rfl)); try simp only [Act.put, List.setIfInBounds_toArray, List.set_cons_zero, List.set_cons_succ]) | (refine takeW 3 rfl (by decide +kernel) (by decide +kernel) (by decide +kernel) (fun _ _ _ h => h) (Or.inr ⟨by rfl, rfl⟩) ?_; try simp only [Act.put, List.setIfInBounds_toArray, List.set_cons_zero, List.set_cons_succ]) | skip))
        refine takeT 4 (v := pkV a A1 c1) rfl (by decide +kernel) (by decide +kernel) (by decide +kernel) (fun _ _ _ h => h) (by decide +kernel) (yieldsIf_load_mid (by rfl) _ (.tmp 7) rfl g7 0 rfl (pkL a A1 c1) _ (fun W hW => range_sm hW (fun j => .inr (.inl rfl)) d1) Tryd.underlying40 rfl (by kernel_rfl)) ?_
        try simp only [Act.put, List.setIfInBounds_toArray, List.set_cons_zero, List.set_cons_succ]
        refine takeT 5 (v := pkV a B4 e4) rfl (by decide +kernel) (by decide +kernel) (by decide +kernel) (fun _ _ _ h => h) (by decide +kernel) (yieldsIf_load_mid (by rfl) _ (.tmp 11) rfl g11 0 rfl (pkL a B4 e4) _ (fun W hW => range_sm hW (fun j => .inr (.inr (.inr (.inl rfl)))) d2) Tryd.underlying40 rfl (by kernel_rfl)) ?_
        try simp only [Act.put, List.setIfInBounds_toArray, List.set_cons_zero, List.set_cons_succ]
        clear d1 d2
        replace hb := Lib.hid hb
        refine stepT 6 rfl (by decide +kernel) (by rfl) ?_
        intro K hK
        go_simp
        refine (KD.out x0 (R7.out.below hb.out) (Ra.out.below hb.out)).mono ?_
        rintro e x1 ⟨rfl, bb⟩
        have sm := smBlk5 bb (Nat.lt_of_lt_of_le T.out.1 hb.out.size) (Nat.lt_of_lt_of_le T.out.2.1 hb.out.size) (Nat.lt_of_lt_of_le T.out.2.2.1 hb.out.size) (Nat.lt_of_lt_of_le T.out.2.2.2.1 hb.out.size) (Nat.lt_of_lt_of_le T.out.2.2.2.2 hb.out.size)
        refine hK _ _ (.inr sm) ?_
        clear hK K
        try simp only [Act.put, List.setIfInBounds_toArray, List.set_cons_zero, List.set_cons_succ]
        replace d3 := (sm _ (by simp)).trans d3
        replace d4 := (sm _ (by simp)).trans d4
        replace d5 := (sm _ (by simp)).trans d5
        replace d6 := (sm _ (by simp)).trans d6
        replace hb := Lib.hid (hb.out.trans (bb.mono hb.out.size))
        clear sm bb
        ((first | (refine takeT 7 (v := ?_) rfl (by decide +kernel) (by decide +kernel) (by decide +kernel) (fun _ _ _ h => h) (by decide +kernel) (Or.inl ⟨by rfl, ?_⟩) ?_; rotate_left 1; (focus (intro W hW; have hcW := hW.at; (try dsimp only at hcW); go_simp; first | done | with_reducible rfl)); try simp only [Act.put, List.setIfInBounds_toArray, List.set_cons_zero, List.set_cons_succ]) | (refine takeW 7 (v := ?_) rfl (by decide +kernel) (by decide +kernel) (by decide +kernel) (fun _ _ _ h => h) (Or.inl ⟨by rfl, ?_⟩) ?_; rotate_left 1; (focus (intro W hW; go_simp; first | done | with_reducible rfl)); try simp only [Act.put, List.setIfInBounds_toArray, List.set_cons_zero, List.set_cons_succ]) | (refine takeW 7 rfl (by decide +kernel) (by decide +kernel) (by decide +kernel) (fun _ _ _ h => h) (Or.inr ⟨by rfl, rfl⟩) ?_; try simp only [Act.put, List.setIfInBounds_toArray, List.set_cons_zero, List.set_cons_succ]) | skip); (first | (refine takeT 8 (v := ?_) rfl (by decide +kernel) (by decide +kernel) (by decide +kernel) (fun _ _ _ h => h) (by decide +kernel) (Or.inl ⟨by rfl, ?_⟩) ?_; rotate_left 1; (focus (intro W hW; have hcW := hW.at; (try dsimp only at hcW); go_simp; first | done | with_reducible rfl)); try simp only [Act.put, List.setIfInBounds_toArray, List.set_cons_zero, List.set_cons_succ]) | (refine takeW 8 (v := ?_) rfl (by decide +kernel) (by decide +kernel) (by decide +kernel) (fun _ _ _ h => h) (Or.inl ⟨by rfl, ?_⟩) ?_; rotate_left 1; (focus (intro W hW; go_simp; first | done | with_reducible rfl)); try simp only [Act.put, List.setIfInBounds_toArray, List.set_cons_zero, List.set_cons_succ]) | (refine takeW 8 rfl (by decide +kernel) (by decide +kernel) (by decide +kernel) (fun _ _ _ h => h) (Or.inr ⟨by rfl, rfl⟩) ?_; try simp only [Act.put, List.setIfInBounds_toArray, List.set_cons_zero, List.set_cons_succ]) | skip); (first | (refine takeT 9 (v := ?_) rfl (by decide +kernel) (by decide +kernel) (by decide +kernel) (fun _ _ _ h => h) (by decide +kernel) (Or.inl ⟨by rfl, ?_⟩) ?_; rotate_left 1; (focus (intro W hW; have hcW := hW.at; (try dsimp only at hcW); go_simp; first | done | with_reducible rfl)); try simp only [Act.put, List.setIfInBounds_toArray, List.set_cons_zero, List.set_cons_succ]) | (refine takeW 9 (v := ?_) rfl (by decide +kernel) (by decide +kernel) (by decide +kernel) (fun _ _ _ h => h) (Or.inl ⟨by rfl, ?_⟩) ?_; rotate_left 1; (focus (intro W hW; go_simp; first | done | with_reducible rfl)); try simp only [Act.put, List.setIfInBounds_toArray, List.set_cons_zero, List.set_cons_succ]) | (refine takeW 9 rfl (by decide +kernel) (by decide +kernel) (by decide +kernel) (fun _ _ _ h => h) (Or.inr ⟨by rfl, rfl⟩) ?_; try simp only [Act.put, List.setIfInBounds_toArray, List.set_cons_zero, List.set_cons_succ]) | skip); (first | (refine takeT 10 (v := ?_) rfl (by decide +kernel) (by decide +kernel) (by decide +kernel) (fun _ _ _ h => h) (by decide +kernel) (Or.inl ⟨by rfl, ?_⟩) ?_; rotate_left 1; (focus (intro W hW; have hcW := hW.at; (try dsimp only at hcW); go_simp; first | done | with_reducible rfl)); try simp only [Act.put, List.setIfInBounds_toArray, List.set_cons_zero, List.set_cons_succ]) | (refine takeW 10 (v := ?_) rfl (by decide +kernel) (by decide +kernel) (by decide +kernel) (fun _ _ _ h => h) (Or.inl ⟨by rfl, ?_⟩) ?_; rotate_left 1; (focus (intro W hW; go_simp; first | done | with_reducible rfl)); try simp only [Act.put, List.setIfInBounds_toArray, List.set_cons_zero, List.set_cons_succ]) | (refine takeW 10 rfl (by decide +kernel) (by decide +kernel) (by decide +kernel) (fun _ _ _ h => h) (Or.inr ⟨by rfl, rfl⟩) ?_; try simp only [Act.put, List.setIfInBounds_toArray, List.set_cons_zero, List.set_cons_succ]) | skip); (first | (refine takeT 11 (v := ?_) rfl (by decide +kernel) (by decide +kernel) (by decide +kernel) (fun _ _ _ h => h) (by decide +kernel) (Or.inl ⟨by rfl, ?_⟩) ?_; rotate_left 1; (focus (intro W hW; have hcW := hW.at; (try dsimp only at hcW); go_simp; first | done | with_reducible rfl)); try simp only [Act.put, List.setIfInBounds_toArray, List.set_cons_zero, List.set_cons_succ]) | (refine takeW 11 (v := ?_) rfl (by decide +kernel) (by decide +kernel) (by decide +kernel) (fun _ _ _ h => h) (Or.inl ⟨by rfl, ?_⟩) ?_; rotate_left 1; (focus (intro W hW; go_simp; first | done | with_reducible rfl)); try simp only [Act.put, List.setIfInBounds_toArray, List.set_cons_zero, List.set_cons_succ]) | (refine takeW 11 rfl (by decide +kernel) (by decide +kernel) (by decide +kernel) (fun _ _ _ h => h) (Or.inr ⟨by rfl, rfl⟩) ?_; try simp only [Act.put, List.setIfInBounds_toArray, List.set_cons_zero, List.set_cons_succ]) | skip); (first | (refine takeT 12 (v := ?_) rfl (by decide +kernel) (by decide +kernel) (by decide +kernel) (fun _ _ _ h => h) (by decide +kernel) (Or.inl ⟨by rfl, ?_⟩) ?_; rotate_left 1; (focus (intro W hW; have hcW := hW.at; (try dsimp only at hcW); go_simp; first | done | with_reducible rfl)); try simp only [Act.put, List.setIfInBounds_toArray, List.set_cons_zero, List.set_cons_succ]) | (refine takeW 12 (v := ?_) rfl (by decide +kernel) (by decide +kernel) (by decide +kernel) (fun _ _ _ h => h) (Or.inl ⟨by rfl, ?_⟩) ?_; rotate_left 1; (focus (intro W hW; go_simp; first | done | with_reducible rfl)); try simp only [Act.put, List.setIfInBounds_toArray, List.set_cons_zero, List.set_cons_succ]) | (refine takeW 12 rfl (by decide +kernel) (by decide +kernel) (by decide +kernel) (fun _ _ _ h => h) (Or.inr ⟨by rfl, rfl⟩) ?_; try simp only [Act.put, List.setIfInBounds_toArray, List.set_cons_zero, List.set_cons_succ]) | skip))
        refine stepT 13 rfl (by decide +kernel) (by rfl) ?_
        intro K hK
        go_simp
        refine (KDS.out x1 (L7.out.below hb.out (by decide)) (HS.out.below hb.out (by decide))).mono ?_
        rintro e x2 ⟨rfl, bb⟩
        have sm := smBlk5 bb (Nat.lt_of_lt_of_le T.out.1 hb.out.size) (Nat.lt_of_lt_of_le T.out.2.1 hb.out.size) (Nat.lt_of_lt_of_le T.out.2.2.1 hb.out.size) (Nat.lt_of_lt_of_le T.out.2.2.2.1 hb.out.size) (Nat.lt_of_lt_of_le T.out.2.2.2.2 hb.out.size)
        refine hK _ _ (.inr sm) ?_
        clear hK K
        try simp only [Act.put, List.setIfInBounds_toArray, List.set_cons_zero, List.set_cons_succ]
        replace d4 := (sm _ (by simp)).trans d4
        replace d5 := (sm _ (by simp)).trans d5
        replace d6 := (sm _ (by simp)).trans d6
        replace hb := Lib.hid (hb.out.trans (bb.mono hb.out.size))
        clear sm bb d3
        ((first | (refine takeT 14 (v := ?_) rfl (by decide +kernel) (by decide +kernel) (by decide +kernel) (fun _ _ _ h => h) (by decide +kernel) (Or.inl ⟨by rfl, ?_⟩) ?_; rotate_left 1; (focus (intro W hW; have hcW := hW.at; (try dsimp only at hcW); go_simp; first | done | with_reducible rfl)); try simp only [Act.put, List.setIfInBounds_toArray, List.set_cons_zero, List.set_cons_succ]) | (refine takeW 14 (v := ?_) rfl (by decide +kernel) (by decide +kernel) (by decide +kernel) (fun _ _ _ h => h) (Or.inl ⟨by rfl, ?_⟩) ?_; rotate_left 1; (focus (intro W hW; go_simp; first | done | with_reducible rfl)); try simp only [Act.put, List.setIfInBounds_toArray, List.set_cons_zero, List.set_cons_succ]) | (refine takeW 14 rfl (by decide +kernel) (by decide +kernel) (by decide +kernel) (fun _ _ _ h => h) (Or.inr ⟨by rfl, rfl⟩) ?_; try simp only [Act.put, List.setIfInBounds_toArray, List.set_cons_zero, List.set_cons_succ]) | skip); (first | (refine takeT 15 (v := ?_) rfl (by decide +kernel) (by decide +kernel) (by decide +kernel) (fun _ _ _ h => h) (by decide +kernel) (Or.inl ⟨by rfl, ?_⟩) ?_; rotate_left 1; (focus (intro W hW; have hcW := hW.at; (try dsimp only at hcW); go_simp; first | done | with_reducible rfl)); try simp only [Act.put, List.setIfInBounds_toArray, List.set_cons_zero, List.set_cons_succ]) | (refine takeW 15 (v := ?_) rfl (by decide +kernel) (by decide +kernel) (by decide +kernel) (fun _ _ _ h => h) (Or.inl ⟨by rfl, ?_⟩) ?_; rotate_left 1; (focus (intro W hW; go_simp; first | done | with_reducible rfl)); try simp only [Act.put, List.setIfInBounds_toArray, List.set_cons_zero, List.set_cons_succ]) | (refine takeW 15 rfl (by decide +kernel) (by decide +kernel) (by decide +kernel) (fun _ _ _ h => h) (Or.inr ⟨by rfl, rfl⟩) ?_; try simp only [Act.put, List.setIfInBounds_toArray, List.set_cons_zero, List.set_cons_succ]) | skip); (first | (refine takeT 16 (v := ?_) rfl (by decide +kernel) (by decide +kernel) (by decide +kernel) (fun _ _ _ h => h) (by decide +kernel) (Or.inl ⟨by rfl, ?_⟩) ?_; rotate_left 1; (focus (intro W hW; have hcW := hW.at; (try dsimp only at hcW); go_simp; first | done | with_reducible rfl)); try simp only [Act.put, List.setIfInBounds_toArray, List.set_cons_zero, List.set_cons_succ]) | (refine takeW 16 (v := ?_) rfl (by decide +kernel) (by decide +kernel) (by decide +kernel) (fun _ _ _ h => h) (Or.inl ⟨by rfl, ?_⟩) ?_; rotate_left 1; (focus (intro W hW; go_simp; first | done | with_reducible rfl)); try simp only [Act.put, List.setIfInBounds_toArray, List.set_cons_zero, List.set_cons_succ]) | (refine takeW 16 rfl (by decide +kernel) (by decide +kernel) (by decide +kernel) (fun _ _ _ h => h) (Or.inr ⟨by rfl, rfl⟩) ?_; try simp only [Act.put, List.setIfInBounds_toArray, List.set_cons_zero, List.set_cons_succ]) | skip); (first | (refine takeT 17 (v := ?_) rfl (by decide +kernel) (by decide +kernel) (by decide +kernel) (fun _ _ _ h => h) (by decide +kernel) (Or.inl ⟨by rfl, ?_⟩) ?_; rotate_left 1; (focus (intro W hW; have hcW := hW.at; (try dsimp only at hcW); go_simp; first | done | with_reducible rfl)); try simp only [Act.put, List.setIfInBounds_toArray, List.set_cons_zero, List.set_cons_succ]) | (refine takeW 17 (v := ?_) rfl (by decide +kernel) (by decide +kernel) (by decide +kernel) (fun _ _ _ h => h) (Or.inl ⟨by rfl, ?_⟩) ?_; rotate_left 1; (focus (intro W hW; go_simp; first | done | with_reducible rfl)); try simp only [Act.put, List.setIfInBounds_toArray, List.set_cons_zero, List.set_cons_succ]) | (refine takeW 17 rfl (by decide +kernel) (by decide +kernel) (by decide +kernel) (fun _ _ _ h => h) (Or.inr ⟨by rfl, rfl⟩) ?_; try simp only [Act.put, List.setIfInBounds_toArray, List.set_cons_zero, List.set_cons_succ]) | skip); (first | (refine takeT 18 (v := ?_) rfl (by decide +kernel) (by decide +kernel) (by decide +kernel) (fun _ _ _ h => h) (by decide +kernel) (Or.inl ⟨by rfl, ?_⟩) ?_; rotate_left 1; (focus (intro W hW; have hcW := hW.at; (try dsimp only at hcW); go_simp; first | done | with_reducible rfl)); try simp only [Act.put, List.setIfInBounds_toArray, List.set_cons_zero, List.set_cons_succ]) | (refine takeW 18 (v := ?_) rfl (by decide +kernel) (by decide +kernel) (by decide +kernel) (fun _ _ _ h => h) (Or.inl ⟨by rfl, ?_⟩) ?_; rotate_left 1; (focus (intro W hW; go_simp; first | done | with_reducible rfl)); try simp only [Act.put, List.setIfInBounds_toArray, List.set_cons_zero, List.set_cons_succ]) | (refine takeW 18 rfl (by decide +kernel) (by decide +kernel) (by decide +kernel) (fun _ _ _ h => h) (Or.inr ⟨by rfl, rfl⟩) ?_; try simp only [Act.put, List.setIfInBounds_toArray, List.set_cons_zero, List.set_cons_succ]) | skip); (first | (refine takeT 19 (v := ?_) rfl (by decide +kernel) (by decide +kernel) (by decide +kernel) (fun _ _ _ h => h) (by decide +kernel) (Or.inl ⟨by rfl, ?_⟩) ?_; rotate_left 1; (focus (intro W hW; have hcW := hW.at; (try dsimp only at hcW); go_simp; first | done | with_reducible rfl)); try simp only [Act.put, List.setIfInBounds_toArray, List.set_cons_zero, List.set_cons_succ]) | (refine takeW 19 (v := ?_) rfl (by decide +kernel) (by decide +kernel) (by decide +kernel) (fun _ _ _ h => h) (Or.inl ⟨by rfl, ?_⟩) ?_; rotate_left 1; (focus (intro W hW; go_simp; first | done | with_reducible rfl)); try simp only [Act.put, List.setIfInBounds_toArray, List.set_cons_zero, List.set_cons_succ]) | (refine takeW 19 rfl (by decide +kernel) (by decide +kernel) (by decide +kernel) (fun _ _ _ h => h) (Or.inr ⟨by rfl, rfl⟩) ?_; try simp only [Act.put, List.setIfInBounds_toArray, List.set_cons_zero, List.set_cons_succ]) | skip); (first | (refine takeT 20 (v := ?_) rfl (by decide +kernel) (by decide +kernel) (by decide +kernel) (fun _ _ _ h => h) (by decide +kernel) (Or.inl ⟨by rfl, ?_⟩) ?_; rotate_left 1; (focus (intro W hW; have hcW := hW.at; (try dsimp only at hcW); go_simp; first | done | with_reducible rfl)); try simp only [Act.put, List.setIfInBounds_toArray, List.set_cons_zero, List.set_cons_succ]) | (refine takeW 20 (v := ?_) rfl (by decide +kernel) (by decide +kernel) (by decide +kernel) (fun _ _ _ h => h) (Or.inl ⟨by rfl, ?_⟩) ?_; rotate_left 1; (focus (intro W hW; go_simp; first | done | with_reducible rfl)); try simp only [Act.put, List.setIfInBounds_toArray, List.set_cons_zero, List.set_cons_succ]) | (refine takeW 20 rfl (by decide +kernel) (by decide +kernel) (by decide +kernel) (fun _ _ _ h => h) (Or.inr ⟨by rfl, rfl⟩) ?_; try simp only [Act.put, List.setIfInBounds_toArray, List.set_cons_zero, List.set_cons_succ]) | skip); (first | (refine takeT 21 (v := ?_) rfl (by decide +kernel) (by decide +kernel) (by decide +kernel) (fun _ _ _ h => h) (by decide +kernel) (Or.inl ⟨by rfl, ?_⟩) ?_; rotate_left 1; (focus (intro W hW; have hcW := hW.at; (try dsimp only at hcW); go_simp; first | done | with_reducible rfl)); try simp only [Act.put, List.setIfInBounds_toArray, List.set_cons_zero, List.set_cons_succ]) | (refine takeW 21 (v := ?_) rfl (by decide +kernel) (by decide +kernel) (by decide +kernel) (fun _ _ _ h => h) (Or.inl ⟨by rfl, ?_⟩) ?_; rotate_left 1; (focus (intro W hW; go_simp; first | done | with_reducible rfl)); try simp only [Act.put, List.setIfInBounds_toArray, List.set_cons_zero, List.set_cons_succ]) | (refine takeW 21 rfl (by decide +kernel) (by decide +kernel) (by decide +kernel) (fun _ _ _ h => h) (Or.inr ⟨by rfl, rfl⟩) ?_; try simp only [Act.put, List.setIfInBounds_toArray, List.set_cons_zero, List.set_cons_succ]) | skip); (first | (refine takeT 22 (v := ?_) rfl (by decide +kernel) (by decide +kernel) (by decide +kernel) (fun _ _ _ h => h) (by decide +kernel) (Or.inl ⟨by rfl, ?_⟩) ?_; rotate_left 1; (focus (intro W hW; have hcW := hW.at; (try dsimp only at hcW); go_simp; first | done | with_reducible rfl)); try simp only [Act.put, List.setIfInBounds_toArray, List.set_cons_zero, List.set_cons_succ]) | (refine takeW 22 (v := ?_) rfl (by decide +kernel) (by decide +kernel) (by decide +kernel) (fun _ _ _ h => h) (Or.inl ⟨by rfl, ?_⟩) ?_; rotate_left 1; (focus (intro W hW; go_simp; first | done | with_reducible rfl)); try simp only [Act.put, List.setIfInBounds_toArray, List.set_cons_zero, List.set_cons_succ]) | (refine takeW 22 rfl (by decide +kernel) (by decide +kernel) (by decide +kernel) (fun _ _ _ h => h) (Or.inr ⟨by rfl, rfl⟩) ?_; try simp only [Act.put, List.setIfInBounds_toArray, List.set_cons_zero, List.set_cons_succ]) | skip))
        refine stepT 23 rfl (by decide +kernel) (by rfl) ?_
        intro K hK
        go_simp
        refine (KDH.out x2 _ (HD.out.below hb.out (by decide)) (HH.out.below hb.out (by decide))).mono ?_
        rintro e x3 ⟨rfl, bb⟩
        have sm := smBlk5 bb (Nat.lt_of_lt_of_le T.out.1 hb.out.size) (Nat.lt_of_lt_of_le T.out.2.1 hb.out.size) (Nat.lt_of_lt_of_le T.out.2.2.1 hb.out.size) (Nat.lt_of_lt_of_le T.out.2.2.2.1 hb.out.size) (Nat.lt_of_lt_of_le T.out.2.2.2.2 hb.out.size)
        refine hK _ _ (.inr sm) ?_
        clear hK K
        try simp only [Act.put, List.setIfInBounds_toArray, List.set_cons_zero, List.set_cons_succ]
        replace d6 := (sm _ (by simp)).trans d6
        replace hb := Lib.hid (hb.out.trans (bb.mono hb.out.size))
        clear sm bb d4 d5
        ((first | (refine takeT 24 (v := ?_) rfl (by decide +kernel) (by decide +kernel) (by decide +kernel) (fun _ _ _ h => h) (by decide +kernel) (Or.inl ⟨by rfl, ?_⟩) ?_; rotate_left 1; (focus (intro W hW; have hcW := hW.at; (try dsimp only at hcW); go_simp; first | done | with_reducible rfl)); try simp only [Act.put, List.setIfInBounds_toArray, List.set_cons_zero, List.set_cons_succ]) | (refine takeW 24 (v := ?_) rfl (by decide +kernel) (by decide +kernel) (by decide +kernel) (fun _ _ _ h => h) (Or.inl ⟨by rfl, ?_⟩) ?_; rotate_left 1; (focus (intro W hW; go_simp; first | done | with_reducible rfl)); try simp only [Act.put, List.setIfInBounds_toArray, List.set_cons_zero, List.set_cons_succ]) | (refine takeW 24 rfl (by decide +kernel) (by decide +kernel) (by decide +kernel) (fun _ _ _ h => h) (Or.inr ⟨by rfl, rfl⟩) ?_; try simp only [Act.put, List.setIfInBounds_toArray, List.set_cons_zero, List.set_cons_succ]) | skip); (first | (refine takeT 25 (v := ?_) rfl (by decide +kernel) (by decide +kernel) (by decide +kernel) (fun _ _ _ h => h) (by decide +kernel) (Or.inl ⟨by rfl, ?_⟩) ?_; rotate_left 1; (focus (intro W hW; have hcW := hW.at; (try dsimp only at hcW); go_simp; first | done | with_reducible rfl)); try simp only [Act.put, List.setIfInBounds_toArray, List.set_cons_zero, List.set_cons_succ]) | (refine takeW 25 (v := ?_) rfl (by decide +kernel) (by decide +kernel) (by decide +kernel) (fun _ _ _ h => h) (Or.inl ⟨by rfl, ?_⟩) ?_; rotate_left 1; (focus (intro W hW; go_simp; first | done | with_reducible rfl)); try simp only [Act.put, List.setIfInBounds_toArray, List.set_cons_zero, List.set_cons_succ]) | (refine takeW 25 rfl (by decide +kernel) (by decide +kernel) (by decide +kernel) (fun _ _ _ h => h) (Or.inr ⟨by rfl, rfl⟩) ?_; try simp only [Act.put, List.setIfInBounds_toArray, List.set_cons_zero, List.set_cons_succ]) | skip); (first | (refine takeT 26 (v := ?_) rfl (by decide +kernel) (by decide +kernel) (by decide +kernel) (fun _ _ _ h => h) (by decide +kernel) (Or.inl ⟨by rfl, ?_⟩) ?_; rotate_left 1; (focus (intro W hW; have hcW := hW.at; (try dsimp only at hcW); go_simp; first | done | with_reducible rfl)); try simp only [Act.put, List.setIfInBounds_toArray, List.set_cons_zero, List.set_cons_succ]) | (refine takeW 26 (v := ?_) rfl (by decide +kernel) (by decide +kernel) (by decide +kernel) (fun _ _ _ h => h) (Or.inl ⟨by rfl, ?_⟩) ?_; rotate_left 1; (focus (intro W hW; go_simp; first | done | with_reducible rfl)); try simp only [Act.put, List.setIfInBounds_toArray, List.set_cons_zero, List.set_cons_succ]) | (refine takeW 26 rfl (by decide +kernel) (by decide +kernel) (by decide +kernel) (fun _ _ _ h => h) (Or.inr ⟨by rfl, rfl⟩) ?_; try simp only [Act.put, List.setIfInBounds_toArray, List.set_cons_zero, List.set_cons_succ]) | skip); (first | (refine takeT 27 (v := ?_) rfl (by decide +kernel) (by decide +kernel) (by decide +kernel) (fun _ _ _ h => h) (by decide +kernel) (Or.inl ⟨by rfl, ?_⟩) ?_; rotate_left 1; (focus (intro W hW; have hcW := hW.at; (try dsimp only at hcW); go_simp; first | done | with_reducible rfl)); try simp only [Act.put, List.setIfInBounds_toArray, List.set_cons_zero, List.set_cons_succ]) | (refine takeW 27 (v := ?_) rfl (by decide +kernel) (by decide +kernel) (by decide +kernel) (fun _ _ _ h => h) (Or.inl ⟨by rfl, ?_⟩) ?_; rotate_left 1; (focus (intro W hW; go_simp; first | done | with_reducible rfl)); try simp only [Act.put, List.setIfInBounds_toArray, List.set_cons_zero, List.set_cons_succ]) | (refine takeW 27 rfl (by decide +kernel) (by decide +kernel) (by decide +kernel) (fun _ _ _ h => h) (Or.inr ⟨by rfl, rfl⟩) ?_; try simp only [Act.put, List.setIfInBounds_toArray, List.set_cons_zero, List.set_cons_succ]) | skip); (first | (refine takeT 28 (v := ?_) rfl (by decide +kernel) (by decide +kernel) (by decide +kernel) (fun _ _ _ h => h) (by decide +kernel) (Or.inl ⟨by rfl, ?_⟩) ?_; rotate_left 1; (focus (intro W hW; have hcW := hW.at; (try dsimp only at hcW); go_simp; first | done | with_reducible rfl)); try simp only [Act.put, List.setIfInBounds_toArray, List.set_cons_zero, List.set_cons_succ]) | (refine takeW 28 (v := ?_) rfl (by decide +kernel) (by decide +kernel) (by decide +kernel) (fun _ _ _ h => h) (Or.inl ⟨by rfl, ?_⟩) ?_; rotate_left 1; (focus (intro W hW; go_simp; first | done | with_reducible rfl)); try simp only [Act.put, List.setIfInBounds_toArray, List.set_cons_zero, List.set_cons_succ]) | (refine takeW 28 rfl (by decide +kernel) (by decide +kernel) (by decide +kernel) (fun _ _ _ h => h) (Or.inr ⟨by rfl, rfl⟩) ?_; try simp only [Act.put, List.setIfInBounds_toArray, List.set_cons_zero, List.set_cons_succ]) | skip))
        ((first | (refine takeT 30 (v := ?_) rfl (by decide +kernel) (by decide +kernel) (by decide +kernel) (fun _ _ _ h => h) (by decide +kernel) (Or.inl ⟨by rfl, ?_⟩) ?_; rotate_left 1; (focus (intro W hW; have hcW := hW.at; (try dsimp only at hcW); go_simp; first | done | with_reducible rfl)); try simp only [Act.put, List.setIfInBounds_toArray, List.set_cons_zero, List.set_cons_succ]) | (refine takeW 30 (v := ?_) rfl (by decide +kernel) (by decide +kernel) (by decide +kernel) (fun _ _ _ h => h) (Or.inl ⟨by rfl, ?_⟩) ?_; rotate_left 1; (focus (intro W hW; go_simp; first | done | with_reducible rfl)); try simp only [Act.put, List.setIfInBounds_toArray, List.set_cons_zero, List.set_cons_succ]) | (refine takeW 30 rfl (by decide +kernel) (by decide +kernel) (by decide +kernel) (fun _ _ _ h => h) (Or.inr ⟨by rfl, rfl⟩) ?_; try simp only [Act.put, List.setIfInBounds_toArray, List.set_cons_zero, List.set_cons_succ]) | skip))
        clear d6
        have hwx := Hwz.out.trans (hb.out.mono Hwz.out.size)
        have hcv : (convert 22 9 (.slice A p.data.length c)).run Tryd.prog x3 = .ok (.string ⟨p.data.toArray⟩) x3 := (Hr.out.keep (w' := x3) fun k hk => hwx.block k hk).rdT.str Tryd.underlying22 Tryd.underlying5 Tryd.underlying9
        refine stepT 29 rfl (by decide +kernel) (by rfl) ?_
        intro K hK
        go_simp
        refine hK _ _ (.inr (Sm.refl _ _)) ?_
        clear hK K hcv
        try simp only [Act.put, List.setIfInBounds_toArray, List.set_cons_zero, List.set_cons_succ]
        ((first | (refine takeT 31 (v := ?_) rfl (by decide +kernel) (by decide +kernel) (by decide +kernel) (fun _ _ _ h => h) (by decide +kernel) (Or.inl ⟨by rfl, ?_⟩) ?_; rotate_left 1; (focus (intro W hW; have hcW := hW.at; (try dsimp only at hcW); go_simp; first | done | with_reducible rfl)); try simp only [Act.put, List.setIfInBounds_toArray, List.set_cons_zero, List.set_cons_succ]) | (refine takeW 31 (v := ?_) rfl (by decide +kernel) (by decide +kernel) (by decide +kernel) (fun _ _ _ h => h) (Or.inl ⟨by rfl, ?_⟩) ?_; rotate_left 1; (focus (intro W hW; go_simp; first | done | with_reducible rfl)); try simp only [Act.put, List.setIfInBounds_toArray, List.set_cons_zero, List.set_cons_succ]) | (refine takeW 31 rfl (by decide +kernel) (by decide +kernel) (by decide +kernel) (fun _ _ _ h => h) (Or.inr ⟨by rfl, rfl⟩) ?_; try simp only [Act.put, List.setIfInBounds_toArray, List.set_cons_zero, List.set_cons_succ]) | skip); (first | (refine takeT 32 (v := ?_) rfl (by decide +kernel) (by decide +kernel) (by decide +kernel) (fun _ _ _ h => h) (by decide +kernel) (Or.inl ⟨by rfl, ?_⟩) ?_; rotate_left 1; (focus (intro W hW; have hcW := hW.at; (try dsimp only at hcW); go_simp; first | done | with_reducible rfl)); try simp only [Act.put, List.setIfInBounds_toArray, List.set_cons_zero, List.set_cons_succ]) | (refine takeW 32 (v := ?_) rfl (by decide +kernel) (by decide +kernel) (by decide +kernel) (fun _ _ _ h => h) (Or.inl ⟨by rfl, ?_⟩) ?_; rotate_left 1; (focus (intro W hW; go_simp; first | done | with_reducible rfl)); try simp only [Act.put, List.setIfInBounds_toArray, List.set_cons_zero, List.set_cons_succ]) | (refine takeW 32 rfl (by decide +kernel) (by decide +kernel) (by decide +kernel) (fun _ _ _ h => h) (Or.inr ⟨by rfl, rfl⟩) ?_; try simp only [Act.put, List.setIfInBounds_toArray, List.set_cons_zero, List.set_cons_succ]) | skip))
        refine doneT (by kernel_rfl) ?_
        have Hwx := Lib.hid hwx
        have BX := Lib.hid ((hb.out.block _ (block_lt BP.out)).trans BP.out)
        clear hwx KD KDS KDH HD HH HS L7 R7 Ra B7 K10 K11 BN T hb
        have hln : (spkR nextN askN () () p).1.2.2.length = (if p.err = 0 then 1 else 0) ∧ (spkR nextN askN () () p).2 = (zeroP, false) := by
          unfold spkR speakR askN
          by_cases h : p.err = 0
          · rw [if_pos h, if_pos h]; exact ⟨rfl, rfl⟩
          · rw [if_neg h, if_neg h]; exact ⟨rfl, rfl⟩
        obtain ⟨⟨⟨⟨⟩, ⟨⟩, ln⟩, r⟩, hRn⟩ : ∃ r, spkR nextN askN () () p = r := ⟨_, rfl⟩
        rw [hRn] at hln
        obtain ⟨hln, hr0⟩ := hln
        simp only at hln hr0
        subst hr0
        have KN := Lib.hid fun (X : World) (hwX : Below w.heap.size w X) => show Calls Tryd.prog 19 #[.nilIface, .nilIface, pkV p A c] X (SpkPost ((noA w.heap.size).sep (noA w.heap.size)) (fun _ => False) X (zeroP, false) ln) from by
          have h0 : ((noA w.heap.size).sep (noA w.heap.size)).holds (fun _ => False) X := ⟨fun _ => False, fun _ => False, fun _ h => h, fun _ h => h, fun _ h => h.elim, fun _ => by simp⟩
          have := spkP_any (J := fun _ _ => True) (D := fun _ : Unit => noA w.heap.size) (W := fun _ : Unit => noA w.heap.size) (next := nextN) (ask := askN) (.inl rfl) (.inl rfl) (fault_nil _) (fun b => askC_nil _ b .nilIface _) hLN X () trivial () _ h0 p Hok.out A c ((Hr.out.keep (w' := X) fun k hk => hwX.block k hk).mono fun k hk h => h) hwX.size (HL.out.belowN hwX hLN)
          rw [hRn] at this
          exact this
        have KC := Lib.hid fun X => rcheck_any X p Hok.out A c
        have KL := Lib.hid fun (X : World) (hwX : Below w.heap.size w X) => lives_any X (HL.out.belowN hwX hLN) (Nat.lt_of_lt_of_le hLN hwX.size)
        clear hRn
        go_wp2_with (refine wpl_loadB flatPk rfl (.tmp 2) rfl _ rfl BX.out rfl ?_)
        refine (KN.out x3 Hwx.out).mono ?_
        rintro e y9 ⟨A9, c9, C9, f9, S1, F, rfl, _, _, _, _, hm, _⟩
        have h9 : Below w.heap.size w y9 := Hwx.out.trans ((hm.belowN (N := x3.heap.size) (fun k hk => hk.elim) (Nat.le_refl _)).mono Hwx.out.size)
        have BY := Lib.hid (((hm.belowN (N := x3.heap.size) (fun k hk => hk.elim) (Nat.le_refl _)).block _ (block_lt BX.out)).trans BX.out)
        have H9 := Lib.hid h9
        have k9 := Lib.hid (alloc1 y9 pkZ)
        have hb9 := Lib.hid ((Below.refl y9.heap.size y9).alloc (Nat.le_refl _) pkZ)
        clear h9 hm
        obtain ⟨E, hE⟩ : ∃ E, (p.err : Int) = E := ⟨_, rfl⟩
        obtain ⟨n9, hn9⟩ : ∃ n9, ln.length = n9 := ⟨_, rfl⟩
        rw [hn9] at hln ⊢
        simp only [hE] at KC
        have hln' : ((n9 : Int) == (if E = 0 then 1 else 0)) = true := by
          rw [hln, ← hE]
          by_cases h : p.err = 0
          · simp [h]
          · rw [if_neg h, if_neg (by omega)]; rfl
        have Hln := Lib.hid hln'
        clear hln hln' hE hn9
        go_wp2_with (first | (refine wpl_storeB flatPk rfl (.tmp 13) (.tmp 91) rfl _ rfl _ rfl k9.out rfl rfl rfl ?_; intro y10 k10 hg10 hs10; have BZ := Lib.hid (grown_block hg10 ((hb9.out.block _ (block_lt BY.out)).trans BY.out) (fun e => by injection e; have := block_lt BY.out; omega)); have H10 := Lib.hid (H9.out.trans ((below_grown hb9.out hg10 hb9.out.size (Nat.le_refl _)).mono H9.out.size)); have e9 := block_at k10 (i := 0) (v := .int .u8 0) rfl; have K10 := Lib.hid k10; clear k10 hg10 hs10) | (refine wpl_loadB flatPk rfl (.tmp 2) rfl _ rfl BZ.out rfl ?_))
        refine (KC.out _).mono ?_
        rintro e y11 ⟨rfl, bb⟩
        have H11 := Lib.hid (H10.out.trans (bb.mono H10.out.size))
        have e11 := block_at ((bb.block _ (block_lt K10.out)).trans K10.out) (i := 0) (v := .int .u8 0) rfl
        clear e9 bb
        have KL1 := KL.out y11 H11.out
        by_cases h0 : E = 0
        · subst h0
          have i1 : ((n9 : Int) == 1) = true := by simpa using Hln.out
          go_wp2_with fail
          refine KL1.mono ?_
          rintro e y12 ⟨rfl, bb⟩
          have H12 := Lib.hid (H11.out.trans (bb.mono H11.out.size))
          clear bb
          go_wp2
          go_ret
          exact ⟨rfl, H12.out⟩
        · have i0 : ((n9 : Int) == 0) = true := by have := Hln.out; rw [if_neg h0] at this; exact this
          have hE1 : (E != 0) = true := by rw [bne_iff_ne]; exact h0
          go_wp2_with fail
          refine KL1.mono ?_
          rintro e y12 ⟨rfl, bb⟩
          have H12 := Lib.hid (H11.out.trans (bb.mono H11.out.size))
          clear bb
          go_wp2
          go_ret
          exact ⟨rfl, H12.out⟩

theorem lawSpeak_all (w : World) (hL : Laid w) (hLN : 0 < w.heap.size) (p : Pkt) (pin : p.In) (A : Option Addr) (c : Nat) (hr : Rd w w.heap.size A c p.data) (A' B : Option Addr) (c' cb : Nat) (l : List Pkt) (xs : List UInt8)
    (hla : RdL layPk (fun k => k < w.heap.size) w A' c' l) (hin : ∀ a ∈ l, a.In) (hx : Rd w w.heap.size B cb xs) :
    Calls Tryd.prog 5 #[pkV p A c, .agg #[.slice A' l.length c', .slice B xs.length cb]] w (ResB w true) := by
  by_cases hd : (1100 : Int) < (p.data.length : Int)
  · exact lawSpeak_long w p A c A' B c' l.length xs.length cb hd
  · exact lawSpeak_any w hL hLN p pin A c hr A' B c' cb l xs hla hin hx hd

end Go.Proofs.YtkfkcpogcobmbaaDoor
