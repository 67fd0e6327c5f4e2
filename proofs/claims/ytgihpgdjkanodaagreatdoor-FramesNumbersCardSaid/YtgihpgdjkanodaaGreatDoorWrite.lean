/-
  Helper text, several in one; no statement is proved here.
-/
import Derived.Test.YtgihpgdjkanodaaGreatDoorSpk
import Derived.WalkMore
import Derived.ScopeJumps
namespace Go.Proofs.YtgihpgdjkanodaaGreatDoor
open Go Go.RowKit

/-- A transaction. -/
structure Tr where
  addr : Nat
  endp : Nat
  what : Nat
  tog : Bool
  iso : Bool
  max : Int
  data : List UInt8
structure Tr.Ok (t : Tr) : Prop where
  addr : t.addr < 256
  endp : t.endp < 256
  what : t.what < 256
  lo : -9223372036854775808 ≤ t.max
  hi : t.max ≤ 9223372036854775807
  len : t.data.length ≤ 1000000
abbrev trL (t : Tr) (A : Option Addr) (c : Nat) : Array Value := #[.int .u8 (t.addr : Int), .int .u8 (t.endp : Int), .int .u8 (t.what : Int), .bool t.tog, .bool t.iso, .int .i64 t.max, .slice A t.data.length c]
abbrev trV (t : Tr) (A : Option Addr) (c : Nat) : Value := .agg (trL t A c)
abbrev trB (t : Tr) (A : Option Addr) (c : Nat) : Obj := .cells (trL t A c) 92
theorem tr_cells {w : World} {k : Nat} {t : Tr} {A : Option Addr} {c : Nat} (h : w.heap[k]? = some (trB t A c)) :
    w.cell? ⟨k, 0, none⟩ = some (.int .u8 (t.addr : Int)) ∧ w.cell? ⟨k, 1, none⟩ = some (.int .u8 (t.endp : Int)) ∧ w.cell? ⟨k, 2, none⟩ = some (.int .u8 (t.what : Int)) ∧ w.cell? ⟨k, 3, none⟩ = some (.bool t.tog) ∧ w.cell? ⟨k, 4, none⟩ = some (.bool t.iso) ∧
    w.cell? ⟨k, 5, none⟩ = some (.int .i64 t.max) ∧ w.cell? ⟨k, 6, none⟩ = some (.slice A t.data.length c) :=
  ⟨cell_at h 0, cell_at h 1, cell_at h 2, cell_at h 3, cell_at h 4, cell_at h 5, cell_at h 6⟩
def tokP (t : Tr) : Pkt := ⟨t.what, t.addr, t.endp, 0, 0, 0, false, false, 0, []⟩
def dpid (b : Bool) : Nat := bif b then 11 else 3
def datP (t : Tr) : Pkt := ⟨dpid t.tog, 0, 0, 0, 0, 0, false, false, 0, t.data⟩
def ackP : Pkt := ⟨2, 0, 0, 0, 0, 0, false, false, 0, []⟩
theorem tokP_ok {t : Tr} (h : t.Ok) : (tokP t).Ok := ⟨h.what, h.addr, h.endp, by show (0:Nat) < 65536; omega, by show (0:Nat) < 256; omega, by show (0:Nat) < 256; omega, by show (0:Nat) < 256; omega, by show (0:Nat) ≤ 1000000; omega⟩
theorem dpid_lt (b : Bool) : dpid b < 256 := by cases b <;> decide
theorem datP_ok {t : Tr} (h : t.Ok) : (datP t).Ok := ⟨dpid_lt _, by show (0:Nat) < 256; omega, by show (0:Nat) < 256; omega, by show (0:Nat) < 65536; omega, by show (0:Nat) < 256; omega, by show (0:Nat) < 256; omega, by show (0:Nat) < 256; omega, h.len⟩
theorem ackP_ok : ackP.Ok := by constructor <;> decide

/-- A value is returned, and what was there is as it was. -/
def ResV (w : World) (v : Value) (e : Ending) (w' : World) : Prop := e = .returned v ∧ Below w.heap.size w w'

set_option maxHeartbeats 400000 in
set_option maxRecDepth 100000 in
theorem token_any (w : World) (t : Tr) (A : Option Addr) (c : Nat) : Calls Tryz.prog 88 #[trV t A c] w (ResV w (pkV (tokP t) none 0)) := by
  obtain ⟨g0, g1, g2, g3⟩ := alloc2 w (trB t A c) pkZ
  obtain ⟨c0, c1, c2, c3, c4, c5, c6⟩ := tr_cells g0
  have B1 := Lib.hid g1
  have Hb := Lib.hid g3
  clear g0 g1 g2 g3 c3 c4 c5 c6
  go_enter Tryz.func88, Tryz.ntmps88
  go_wp2_with (refine wpl_storeB flatPk rfl (.tmp 2) (.tmp 9) rfl _ rfl _ rfl B1.out rfl rfl rfl ?_; intro y2 k2 hg2 hs2)
  refine bodyPost_ret (ret_cell flatPk rfl _ (w.heap.size + 1) rfl k2 rfl) rfl ?_
  exact ⟨rfl, below_grown Hb.out hg2 Hb.out.size (by omega)⟩

theorem dpid_any (w : World) (b : Bool) : Calls Tryz.prog 90 #[.bool b] w fun e w' => e = .returned (.int .u8 (dpid b : Int)) ∧ w = w' := by
  cases b
  · go_enter Tryz.func90, Tryz.ntmps90
    go_wp2
    go_ret
    exact ⟨rfl, rfl⟩
  · go_enter Tryz.func90, Tryz.ntmps90
    go_wp2
    go_ret
    exact ⟨rfl, rfl⟩

/-- The result of a handshake. -/
def hsR (what : Nat) (iso : Bool) (pid : Nat) : Nat :=
  if pid = 2 then (if what = 9 then 4 else 1) else if pid = 10 then (if what = 13 ∨ iso = true then 4 else 2) else if pid = 14 then (if what = 13 ∨ iso = true then 4 else 3) else 4

set_option maxHeartbeats 3200000 in
set_option maxRecDepth 100000 in
theorem hand_core (w : World) (addr endp what pid n c : Nat) (tog iso : Bool) (mx : Int) (A : Option Addr) (b2 b10 b14 w9 w13 : Bool) (h2 : ((pid : Int) == 2) = b2) (h10 : ((pid : Int) == 10) = b10) (h14 : ((pid : Int) == 14) = b14) (h9 : ((what : Int) == 9) = w9) (h13 : ((what : Int) == 13) = w13) (R : Nat)
    (hR : R = if b2 = true then (if w9 = true then 4 else 1) else if b10 = true then (if w13 = true ∨ iso = true then 4 else 2) else if b14 = true then (if w13 = true ∨ iso = true then 4 else 3) else 4) :
    Calls Tryz.prog 89 #[.agg #[.int .u8 (addr : Int), .int .u8 (endp : Int), .int .u8 (what : Int), .bool tog, .bool iso, .int .i64 mx, .slice A n c], .int .u8 (pid : Int)] w (ResV w (.int .u8 (R : Int))) := by
  have Hb := Lib.hid ((Below.refl w.heap.size w).alloc (Nat.le_refl _) (.cells #[.int .u8 (addr : Int), .int .u8 (endp : Int), .int .u8 (what : Int), .bool tog, .bool iso, .int .i64 mx, .slice A n c] 92))
  cases b2
  · cases b10
    · cases b14
      · have hR' : R = 4 := by simpa using hR
        subst hR'; clear hR
        go_enter Tryz.func89, Tryz.ntmps89
        go_wp2
        go_step3
        go_wp2
        go_step3
        go_wp2
        rw [Exit.noGoto_ret]
        go_ret
        exact ⟨rfl, Hb.out⟩
      · cases w13
        · cases iso
          · have hR' : R = 3 := by simpa using hR
            subst hR'; clear hR
            go_enter Tryz.func89, Tryz.ntmps89
            go_wp2
            go_step3
            go_wp2
            rw [Exit.noGoto_ret]
            go_ret
            exact ⟨rfl, Hb.out⟩
          · have hR' : R = 4 := by simpa using hR
            subst hR'; clear hR
            go_enter Tryz.func89, Tryz.ntmps89
            go_wp2
            refine wp_scope_jumps 0 (fun act W => act.tmps.size = 29 ∧ act.defers = [] ∧ Below w.heap.size w W) (fun _ _ => 0) (by rfl) ?_ ?_
            · go_wp2
              go_step3
              exact ⟨rfl, rfl, rfl, Hb.out⟩
            · rintro act W ⟨h1, h2, h3⟩
              have H3 := Lib.hid h3
              clear h3
              go_wp2
              show bodyPost _ _ _ Exit.ret _ _
              go_ret
              exact ⟨by simp [h1], H3.out⟩
        · have hR' : R = 4 := by simpa using hR
          subst hR'; clear hR
          go_enter Tryz.func89, Tryz.ntmps89
          go_wp2
          refine wp_scope_jumps 0 (fun act W => act.tmps.size = 29 ∧ act.defers = [] ∧ Below w.heap.size w W) (fun _ _ => 0) (by rfl) ?_ ?_
          · go_wp2
            go_step3
            exact ⟨rfl, rfl, rfl, Hb.out⟩
          · rintro act W ⟨h1, h2, h3⟩
            have H3 := Lib.hid h3
            clear h3
            go_wp2
            show bodyPost _ _ _ Exit.ret _ _
            go_ret
            exact ⟨by simp [h1], H3.out⟩
    · cases w13
      · cases iso
        · have hR' : R = 2 := by simpa using hR
          subst hR'; clear hR
          go_enter Tryz.func89, Tryz.ntmps89
          go_wp2
          go_step3
          go_wp2
          rw [Exit.noGoto_ret]
          go_ret
          exact ⟨rfl, Hb.out⟩
        · have hR' : R = 4 := by simpa using hR
          subst hR'; clear hR
          go_enter Tryz.func89, Tryz.ntmps89
          go_wp2
          refine wp_scope_jumps 0 (fun act W => act.tmps.size = 29 ∧ act.defers = [] ∧ Below w.heap.size w W) (fun _ _ => 0) (by rfl) ?_ ?_
          · go_wp2
            go_step3
            exact ⟨rfl, rfl, rfl, Hb.out⟩
          · rintro act W ⟨h1, h2, h3⟩
            have H3 := Lib.hid h3
            clear h3
            go_wp2
            show bodyPost _ _ _ Exit.ret _ _
            go_ret
            exact ⟨by simp [h1], H3.out⟩
      · have hR' : R = 4 := by simpa using hR
        subst hR'; clear hR
        go_enter Tryz.func89, Tryz.ntmps89
        go_wp2
        refine wp_scope_jumps 0 (fun act W => act.tmps.size = 29 ∧ act.defers = [] ∧ Below w.heap.size w W) (fun _ _ => 0) (by rfl) ?_ ?_
        · go_wp2
          go_step3
          exact ⟨rfl, rfl, rfl, Hb.out⟩
        · rintro act W ⟨h1, h2, h3⟩
          have H3 := Lib.hid h3
          clear h3
          go_wp2
          show bodyPost _ _ _ Exit.ret _ _
          go_ret
          exact ⟨by simp [h1], H3.out⟩
  · cases w9
    · have hR' : R = 1 := by simpa using hR
      subst hR'; clear hR
      go_enter Tryz.func89, Tryz.ntmps89
      go_wp2
      go_step3
      go_wp2
      rw [Exit.noGoto_ret]
      go_ret
      exact ⟨rfl, Hb.out⟩
    · have hR' : R = 4 := by simpa using hR
      subst hR'; clear hR
      go_enter Tryz.func89, Tryz.ntmps89
      go_wp2
      refine wp_scope_jumps 0 (fun act W => act.tmps.size = 29 ∧ act.defers = [] ∧ Below w.heap.size w W) (fun _ _ => 0) (by rfl) ?_ ?_
      · go_wp2
        go_step3
        exact ⟨rfl, rfl, rfl, Hb.out⟩
      · rintro act W ⟨h1, h2, h3⟩
        have H3 := Lib.hid h3
        clear h3
        go_wp2
        show bodyPost _ _ _ Exit.ret _ _
        go_ret
        exact ⟨by simp [h1], H3.out⟩
theorem hand_any (w : World) (t : Tr) (A : Option Addr) (c pid : Nat) : Calls Tryz.prog 89 #[trV t A c, .int .u8 (pid : Int)] w (ResV w (.int .u8 (hsR t.what t.iso pid : Int))) := by
  refine hand_core w t.addr t.endp t.what pid t.data.length c t.tog t.iso t.max A _ _ _ _ _ (castEq pid 2) (castEq pid 10) (castEq pid 14) (castEq t.what 9) (castEq t.what 13) _ ?_
  unfold hsR
  simp only [beq_iff_eq]

end Go.Proofs.YtgihpgdjkanodaaGreatDoor

namespace Go.Proofs.YtgihpgdjkanodaaGreatDoor
open Go Go.RowKit

theorem Asr.drew {N : Nat} {A : Asr N} {F : Nat → Prop} {w : World} (h : A.holds F w) : A.holds F w.drew := A.loc h (Nat.le_refl _) fun _ _ => rfl
/-- An outcome is returned. -/
def OutPost {N : Nat} (A : Asr N) (S : Nat → Prop) (w : World) (r : Nat × List UInt8) (e : Ending) (w' : World) : Prop :=
  ∃ A' c' S', e = .returned (.agg #[.int .u8 (r.1 : Int), .slice A' r.2.length c']) ∧ RdU (fun k => ¬ S' k ∧ w.heap.size ≤ k) w' A' c' r.2 ∧ A.holds S' w' ∧ Mv S w S' w'

section
variable {N : Nat} {σ τ : Type} {D : σ → Asr N} {W : τ → Asr N} {next : τ → τ × Nat} {wv dv : Value} {b : Nat} {ask : σ → τ → List SentP → Pkt → (σ × τ × List SentP) × Pkt × Bool}

/-- What reading comes to. -/
def readR (next : τ → τ × Nat) (ask : σ → τ → List SentP → Pkt → (σ × τ × List SentP) × Pkt × Bool) (x : σ × τ × List SentP) (t : Tr) : (σ × τ × List SentP) × Nat × List UInt8 :=
  let r := speakR next ask x (tokP t)
  if r.2.1.pid ≠ 3 ∧ r.2.1.pid ≠ 11 then (r.1, hsR t.what t.iso r.2.1.pid, [])
  else if t.max < (r.2.1.data.length : Int) then (r.1, 5, [])
  else if t.iso = true then (r.1, 1, r.2.1.data)
  else ((speakR next ask r.1 ackP).1, if r.2.1.pid = dpid t.tog then (1, r.2.1.data) else (6, []))

/-- Asking makes the list longer by at most one. -/
def AskLen (ask : σ → τ → List SentP → Pkt → (σ × τ × List SentP) × Pkt × Bool) : Prop := ∀ s t l p, (ask s t l p).1.2.2.length ≤ l.length + 1
theorem AskLen.speak (h : AskLen ask) (next : τ → τ × Nat) (x : σ × τ × List SentP) (p : Pkt) : (speakR next ask x p).1.2.2.length ≤ x.2.2.length + 2 := by
  unfold speakR
  split
  · have := h x.1 (next x.2.1).1 (x.2.2 ++ [(p, true, (next x.2.1).2)]) p
    rw [List.length_append] at this
    exact this
  · show (x.2.2 ++ _).length ≤ _
    rw [List.length_append]
    simp

/-- What holds between the device and what was sent stays so. -/
structure AskJ (ask : σ → τ → List SentP → Pkt → (σ × τ × List SentP) × Pkt × Bool) (J : σ → List SentP → Prop) : Prop where
  add : ∀ s l y, J s l → J s (l ++ [y])
  ask : ∀ s t l y p, J s l → J (ask s t (l ++ [y]) p).1.1 (ask s t (l ++ [y]) p).1.2.2
theorem AskJ.speak {J : σ → List SentP → Prop} (h : AskJ ask J) (next : τ → τ × Nat) (x : σ × τ × List SentP) (p : Pkt) (hj : J x.1 x.2.2) : J (speakR next ask x p).1.1 (speakR next ask x p).1.2.2 := by
  unfold speakR
  split
  · exact h.ask _ _ _ _ _ hj
  · exact h.add _ _ _ hj

set_option maxHeartbeats 3200000 in
set_option maxRecDepth 100000 in
theorem read_any {J : σ → List SentP → Prop} (hW : WireOK W next wv) (hA : AskC D W b dv wv ask J) (hAl : AskLen ask) (hAj : AskJ ask J) (hLN : 0 < N) (w : World) (x : σ × τ × List SentP) (hj : J x.1 x.2.2) (S : Nat → Prop) (h : (hostA D W b x).holds S w) (t : Tr) (ok : t.Ok) (A : Option Addr) (c : Nat)
    (hl : x.2.2.length ≤ 999990) (hN : N ≤ w.heap.size) (hL : Laid w) :
    Calls Tryz.prog 69 #[hostV dv wv b, trV t A c] w (OutPost (hostA D W b (readR next ask x t).1) S w (readR next ask x t).2) := by
  have hlen := hAl.speak next x (tokP t)
  have hj1 := hAj.speak next x (tokP t) hj
  have KS := Lib.hid fun (X : World) (hX : (hostA D W b x).holds S X) (hN : N ≤ X.heap.size) (hL : Laid X) => speak_any hW hA hLN X x hj S hX (tokP t) (tokP_ok ok) none 0 (RdS.nil X) (by omega) hN hL
  have KT := Lib.hid fun X => token_any X t A c
  obtain ⟨R, hR0⟩ : ∃ R, readR next ask x t = R := ⟨_, rfl⟩
  rw [hR0]
  unfold readR at hR0
  generalize speakR next ask x (tokP t) = r at *
  obtain ⟨x1, a, o⟩ := r
  simp only at KS hR0 hlen hj1
  have KA := Lib.hid fun (X : World) (S : Nat → Prop) (hX : (hostA D W b x1).holds S X) (hN : N ≤ X.heap.size) (hL : Laid X) => speak_any hW hA hLN X x1 hj1 S hX ackP ackP_ok none 0 (RdS.nil X) (by omega) hN hL
  generalize speakR next ask x1 ackP = r2 at *
  obtain ⟨x2, a2, o2⟩ := r2
  obtain ⟨x', res, out⟩ := R
  simp only at KA hR0
  have HR0 := Lib.hid hR0
  have hge : ∀ k, S k → N ≤ k ∧ k < w.heap.size := fun k hk => (hostA D W b x).ge h k hk
  obtain ⟨g0, g1, g2, g3, g4⟩ := alloc3 w (.cells #[dv, wv, noteV b] 127) (trB t A c) (.cells #[.int .u8 0, .slice none 0 0] 74)
  have X0 : Hid (Mv S w S _ ∧ (_ ∧ ¬ S w.heap.size) ∧ (_ ∧ ¬ S (w.heap.size + 1)) ∧ (_ ∧ ¬ S (w.heap.size + 1 + 1)) ∧ (hostA D W b x).holds S _ ∧ _ = w.heap.size + 1 + 1 + 1) :=
    Lib.hid ⟨Mv.of_below S g4, ⟨g0, fun hf => by have := (hge _ hf).2; omega⟩, ⟨g1, fun hf => by have := (hge _ hf).2; omega⟩, ⟨g2, fun hf => by have := (hge _ hf).2; omega⟩, Asr.below h g4 hN, g3⟩
  have hN0 := Lib.hid hN
  have HL := Lib.hid hL
  have Hge := Lib.hid hge
  clear g0 g1 g2 g3 g4 hN hL hge h hl ok hR0 hlen hA hAl hW hAj hj hj1
  go_enter Tryz.func69, Tryz.ntmps69
  go_wp2
  refine region_inv (fun a₀ act y => ∃ (g5 : Nat) (A' : Option Addr) (c' : Nat) (S' : Nat → Prop),
    act = { tmps := #[hostV dv wv b, trV t A c, .pointer (some ⟨w.heap.size, 0, none⟩), .pointer (some ⟨w.heap.size + 1, 0, none⟩), .pointer (some ⟨w.heap.size + 1 + 1, 0, none⟩), .pointer (some ⟨g5, 0, none⟩), .bool o,
        .tuple #[pkV a A' c', .bool o], hostV dv wv b, trV t A c, pkV (tokP t) none 0, .tuple #[pkV a A' c', .bool o], pkV a A' c', .bool o, undef, undef, undef, undef, undef, undef, undef, undef, undef, undef, undef, undef, undef, undef, undef, undef, undef, undef, undef, undef, undef, undef, undef, undef, undef, undef, undef, undef, undef, undef, undef, undef, undef, undef, undef, undef], defers := [] } ∧
    y.heap[g5]? = some (pkB a A' c') ∧ ¬ S' g5 ∧ w.heap.size + 1 + 1 + 1 ≤ g5 ∧ Mv S w S' y ∧ (hostA D W b x1).holds S' y ∧ (y.heap[w.heap.size]? = some (.cells #[dv, wv, noteV b] 127) ∧ ¬ S' w.heap.size) ∧
    (y.heap[w.heap.size + 1]? = some (trB t A c) ∧ ¬ S' (w.heap.size + 1)) ∧ (y.heap[w.heap.size + 1 + 1]? = some (.cells #[.int .u8 0, .slice none 0 0] 74) ∧ ¬ S' (w.heap.size + 1 + 1)) ∧ RdU (fun k => (¬ S' k ∧ w.heap.size + 1 + 1 + 1 ≤ k) ∧ k ≠ g5) y A' c' a.data ∧ N ≤ y.heap.size) ?_ ?_
  · refine startTP (S := fun a => a.block = w.heap.size ∨ a.block = w.heap.size + 1) (T := [8]) (fun X => Mv S w S X ∧ (X.heap[w.heap.size]? = some (.cells #[dv, wv, noteV b] 127) ∧ ¬ S w.heap.size) ∧ (X.heap[w.heap.size + 1]? = some (trB t A c) ∧ ¬ S (w.heap.size + 1)) ∧ (X.heap[w.heap.size + 1 + 1]? = some (.cells #[.int .u8 0, .slice none 0 0] 74) ∧ ¬ S (w.heap.size + 1 + 1)) ∧ (hostA D W b x).holds S X ∧ X.heap.size = w.heap.size + 1 + 1 + 1) 10 (by kernel_rfl) rfl (l := #[false, false, false, false, false, false, false, false, false, false]) rfl
      ⟨X0.out.1.drew, X0.out.2.1, X0.out.2.2.1, X0.out.2.2.2.1, (hostA D W b x).loc X0.out.2.2.2.2.1 (Nat.le_refl _) fun _ _ => rfl, X0.out.2.2.2.2.2⟩ ?_
    clear X0
    rintro x0 ⟨M, b0, b1, b2, hH, hsz⟩
    have hN : Hid (N ≤ x0.heap.size) := Lib.hid (Nat.le_trans hN0.out M.size)
    obtain ⟨c0, c1, c2, c3, c4, c5, c6⟩ := tr_cells b1.1
    have d0 := block_at b0.1 (i := 0) (v := dv) rfl
    have d1 := block_at b0.1 (i := 1) (v := wv) rfl
    have d2 := block_at b0.1 (i := 2) (v := noteV b) rfl
    replace M := Lib.hid M
    replace b0 := Lib.hid b0
    replace b1 := Lib.hid b1
    replace b2 := Lib.hid b2
    replace hH := Lib.hid hH
    have hsz0 := Lib.hid hsz
    clear hsz
    ((first | (refine takeT 0 (v := ?_) rfl (by decide +kernel) (by decide +kernel) (by decide +kernel) (fun _ _ _ h => h) (by decide +kernel) (Or.inl ⟨by rfl, ?_⟩) ?_; rotate_left 1; (focus (intro W hW; have hcW := hW.at; (try dsimp only at hcW); go_simp; first | done | with_reducible rfl)); try simp only [Act.put, List.setIfInBounds_toArray, List.set_cons_zero, List.set_cons_succ]) | (refine takeW 0 (v := ?_) rfl (by decide +kernel) (by decide +kernel) (by decide +kernel) (fun _ _ _ h => h) (Or.inl ⟨by rfl, ?_⟩) ?_; rotate_left 1; (focus (intro W hW; go_simp; first | done | with_reducible rfl)); try simp only [Act.put, List.setIfInBounds_toArray, List.set_cons_zero, List.set_cons_succ]) | (refine takeW 0 rfl (by decide +kernel) (by decide +kernel) (by decide +kernel) (fun _ _ _ h => h) (Or.inr ⟨by rfl, rfl⟩) ?_; try simp only [Act.put, List.setIfInBounds_toArray, List.set_cons_zero, List.set_cons_succ]) | skip); (first | (refine takeT 1 (v := ?_) rfl (by decide +kernel) (by decide +kernel) (by decide +kernel) (fun _ _ _ h => h) (by decide +kernel) (Or.inl ⟨by rfl, ?_⟩) ?_; rotate_left 1; (focus (intro W hW; have hcW := hW.at; (try dsimp only at hcW); go_simp; first | done | with_reducible rfl)); try simp only [Act.put, List.setIfInBounds_toArray, List.set_cons_zero, List.set_cons_succ]) | (refine takeW 1 (v := ?_) rfl (by decide +kernel) (by decide +kernel) (by decide +kernel) (fun _ _ _ h => h) (Or.inl ⟨by rfl, ?_⟩) ?_; rotate_left 1; (focus (intro W hW; go_simp; first | done | with_reducible rfl)); try simp only [Act.put, List.setIfInBounds_toArray, List.set_cons_zero, List.set_cons_succ]) | (refine takeW 1 rfl (by decide +kernel) (by decide +kernel) (by decide +kernel) (fun _ _ _ h => h) (Or.inr ⟨by rfl, rfl⟩) ?_; try simp only [Act.put, List.setIfInBounds_toArray, List.set_cons_zero, List.set_cons_succ]) | skip))
    clear d0 d1 d2 c0 c1 c2 c3 c4 c5 c6
    refine stepTA [2, 7] (by decide +kernel) (by decide) ?_
    intro i hi
    rcases (by simpa using hi : i = 2 ∨ i = 7) with rfl | rfl
    · clear hi
      refine ⟨_, rfl, by rfl, ?_⟩
      intro K hK
      go_simp
      refine (KT.out x0).mono ?_
      rintro e u1 ⟨rfl, bb⟩
      have hm := Mv.of_below S bb
      have sm := smOf hm b0.out b1.out
      replace b0 := Lib.hid (hm.box b0.out)
      replace b1 := Lib.hid (hm.box b1.out)
      replace b2 := Lib.hid (hm.box b2.out)
      replace M := Lib.hid (M.out.trans hm)
      replace hH := Lib.hid (Asr.below hH.out bb hN.out)
      replace hN := Lib.hid (Nat.le_trans hN.out hm.size)
      refine hK _ _ (.inr sm) ?_
      clear hK K hm sm bb
      try simp only [Act.put, List.setIfInBounds_toArray, List.set_cons_zero, List.set_cons_succ]
      refine stepTA [3, 7] (by decide +kernel) (by decide) ?_
      intro i hi
      rcases (by simpa using hi : i = 3 ∨ i = 7) with rfl | rfl
      · clear hi
        refine ⟨_, rfl, by rfl, ?_⟩
        intro K hK
        go_simp
        refine (KS.out u1 hH.out hN.out (HL.out.belowN (M.out.belowN (fun k hk => (Hge.out k hk).1) hN0.out) hLN)).mono ?_
        rintro e u2 ⟨A', c', S', rfl, ra, hH2, hm⟩
        replace hH2 := Lib.hid hH2
        have hsx := block_lt b2.out.1
        replace ra := Lib.hid (ra.lt.mono (G := fun k => (¬ S' k ∧ w.heap.size + 1 + 1 + 1 ≤ k) ∧ k < u2.heap.size) fun k hk => ⟨⟨hk.1.1, by omega⟩, hk.2⟩)
        clear hsx
        have sm := smOf hm b0.out b1.out
        replace b0 := Lib.hid (hm.box b0.out)
        replace b1 := Lib.hid (hm.box b1.out)
        replace b2 := Lib.hid (hm.box b2.out)
        replace M := Lib.hid (M.out.trans hm)
        replace hN := Lib.hid (Nat.le_trans hN.out hm.size)
        refine hK _ _ (.inr sm) ?_
        clear hK K hm sm
        try simp only [Act.put, List.setIfInBounds_toArray, List.set_cons_zero, List.set_cons_succ]
        ((first | (refine takeT 4 (v := ?_) rfl (by decide +kernel) (by decide +kernel) (by decide +kernel) (fun _ _ _ h => h) (by decide +kernel) (Or.inl ⟨by rfl, ?_⟩) ?_; rotate_left 1; (focus (intro W hW; have hcW := hW.at; (try dsimp only at hcW); go_simp; first | done | with_reducible rfl)); try simp only [Act.put, List.setIfInBounds_toArray, List.set_cons_zero, List.set_cons_succ]) | (refine takeW 4 (v := ?_) rfl (by decide +kernel) (by decide +kernel) (by decide +kernel) (fun _ _ _ h => h) (Or.inl ⟨by rfl, ?_⟩) ?_; rotate_left 1; (focus (intro W hW; go_simp; first | done | with_reducible rfl)); try simp only [Act.put, List.setIfInBounds_toArray, List.set_cons_zero, List.set_cons_succ]) | (refine takeW 4 rfl (by decide +kernel) (by decide +kernel) (by decide +kernel) (fun _ _ _ h => h) (Or.inr ⟨by rfl, rfl⟩) ?_; try simp only [Act.put, List.setIfInBounds_toArray, List.set_cons_zero, List.set_cons_succ]) | skip); (first | (refine takeT 5 (v := ?_) rfl (by decide +kernel) (by decide +kernel) (by decide +kernel) (fun _ _ _ h => h) (by decide +kernel) (Or.inl ⟨by rfl, ?_⟩) ?_; rotate_left 1; (focus (intro W hW; have hcW := hW.at; (try dsimp only at hcW); go_simp; first | done | with_reducible rfl)); try simp only [Act.put, List.setIfInBounds_toArray, List.set_cons_zero, List.set_cons_succ]) | (refine takeW 5 (v := ?_) rfl (by decide +kernel) (by decide +kernel) (by decide +kernel) (fun _ _ _ h => h) (Or.inl ⟨by rfl, ?_⟩) ?_; rotate_left 1; (focus (intro W hW; go_simp; first | done | with_reducible rfl)); try simp only [Act.put, List.setIfInBounds_toArray, List.set_cons_zero, List.set_cons_succ]) | (refine takeW 5 rfl (by decide +kernel) (by decide +kernel) (by decide +kernel) (fun _ _ _ h => h) (Or.inr ⟨by rfl, rfl⟩) ?_; try simp only [Act.put, List.setIfInBounds_toArray, List.set_cons_zero, List.set_cons_succ]) | skip); (first | (refine takeT 6 (v := ?_) rfl (by decide +kernel) (by decide +kernel) (by decide +kernel) (fun _ _ _ h => h) (by decide +kernel) (Or.inl ⟨by rfl, ?_⟩) ?_; rotate_left 1; (focus (intro W hW; have hcW := hW.at; (try dsimp only at hcW); go_simp; first | done | with_reducible rfl)); try simp only [Act.put, List.setIfInBounds_toArray, List.set_cons_zero, List.set_cons_succ]) | (refine takeW 6 (v := ?_) rfl (by decide +kernel) (by decide +kernel) (by decide +kernel) (fun _ _ _ h => h) (Or.inl ⟨by rfl, ?_⟩) ?_; rotate_left 1; (focus (intro W hW; go_simp; first | done | with_reducible rfl)); try simp only [Act.put, List.setIfInBounds_toArray, List.set_cons_zero, List.set_cons_succ]) | (refine takeW 6 rfl (by decide +kernel) (by decide +kernel) (by decide +kernel) (fun _ _ _ h => h) (Or.inr ⟨by rfl, rfl⟩) ?_; try simp only [Act.put, List.setIfInBounds_toArray, List.set_cons_zero, List.set_cons_succ]) | skip))
        refine stepTA [7] (by decide +kernel) (by decide) ?_
        intro i hi
        obtain rfl : i = 7 := by simpa using hi
        clear hi
        refine ⟨_, rfl, by rfl, ?_⟩
        intro K hK
        go_simp
        have lb5 := block_lt b2.out.1
        have nS : ¬ S' u2.heap.size := fun hf => Nat.lt_irrefl _ (((hostA D W b x1).ge hH2.out _ hf).2)
        have bb := (Below.refl u2.heap.size u2).alloc (Nat.le_refl _) (pkZ)
        have hm := Mv.of_below S' bb
        have sm := smOf hm b0.out b1.out
        replace b0 := Lib.hid (hm.box b0.out)
        replace b1 := Lib.hid (hm.box b1.out)
        replace b2 := Lib.hid (hm.box b2.out)
        replace M := Lib.hid (M.out.trans hm)
        replace hH2 := Lib.hid (Asr.below hH2.out bb hN.out)
        replace ra := Lib.hid (ra.out.below bb)
        replace hN := Lib.hid (Nat.le_trans hN.out hm.size)
        refine hK _ _ (.inr sm) ?_
        have b5 := Lib.hid (show (u2.alloc (pkZ)).heap[u2.heap.size]? = some (pkZ) ∧ ¬ S' u2.heap.size from ⟨alloc1 u2 (pkZ), nS⟩)
        replace ra := Lib.hid (ra.out.mono (G := fun k => (¬ S' k ∧ w.heap.size + 1 + 1 + 1 ≤ k) ∧ k ≠ u2.heap.size) fun k hk => ⟨hk.1, by omega⟩)
        clear hK K hm sm bb nS
        try simp only [Act.put, List.setIfInBounds_toArray, List.set_cons_zero, List.set_cons_succ]
        generalize u2.alloc (pkZ) = u3 at b0 b1 b2 M hN hH2 ra b5 ⊢
        generalize u2.heap.size = g5 at b0 b1 b2 M hN hH2 ra b5 lb5 ⊢
        ((first | (refine takeT 4 (v := ?_) rfl (by decide +kernel) (by decide +kernel) (by decide +kernel) (fun _ _ _ h => h) (by decide +kernel) (Or.inl ⟨by rfl, ?_⟩) ?_; rotate_left 1; (focus (intro W hW; have hcW := hW.at; (try dsimp only at hcW); go_simp; first | done | with_reducible rfl)); try simp only [Act.put, List.setIfInBounds_toArray, List.set_cons_zero, List.set_cons_succ]) | (refine takeW 4 (v := ?_) rfl (by decide +kernel) (by decide +kernel) (by decide +kernel) (fun _ _ _ h => h) (Or.inl ⟨by rfl, ?_⟩) ?_; rotate_left 1; (focus (intro W hW; go_simp; first | done | with_reducible rfl)); try simp only [Act.put, List.setIfInBounds_toArray, List.set_cons_zero, List.set_cons_succ]) | (refine takeW 4 rfl (by decide +kernel) (by decide +kernel) (by decide +kernel) (fun _ _ _ h => h) (Or.inr ⟨by rfl, rfl⟩) ?_; try simp only [Act.put, List.setIfInBounds_toArray, List.set_cons_zero, List.set_cons_succ]) | skip); (first | (refine takeT 5 (v := ?_) rfl (by decide +kernel) (by decide +kernel) (by decide +kernel) (fun _ _ _ h => h) (by decide +kernel) (Or.inl ⟨by rfl, ?_⟩) ?_; rotate_left 1; (focus (intro W hW; have hcW := hW.at; (try dsimp only at hcW); go_simp; first | done | with_reducible rfl)); try simp only [Act.put, List.setIfInBounds_toArray, List.set_cons_zero, List.set_cons_succ]) | (refine takeW 5 (v := ?_) rfl (by decide +kernel) (by decide +kernel) (by decide +kernel) (fun _ _ _ h => h) (Or.inl ⟨by rfl, ?_⟩) ?_; rotate_left 1; (focus (intro W hW; go_simp; first | done | with_reducible rfl)); try simp only [Act.put, List.setIfInBounds_toArray, List.set_cons_zero, List.set_cons_succ]) | (refine takeW 5 rfl (by decide +kernel) (by decide +kernel) (by decide +kernel) (fun _ _ _ h => h) (Or.inr ⟨by rfl, rfl⟩) ?_; try simp only [Act.put, List.setIfInBounds_toArray, List.set_cons_zero, List.set_cons_succ]) | skip); (first | (refine takeT 6 (v := ?_) rfl (by decide +kernel) (by decide +kernel) (by decide +kernel) (fun _ _ _ h => h) (by decide +kernel) (Or.inl ⟨by rfl, ?_⟩) ?_; rotate_left 1; (focus (intro W hW; have hcW := hW.at; (try dsimp only at hcW); go_simp; first | done | with_reducible rfl)); try simp only [Act.put, List.setIfInBounds_toArray, List.set_cons_zero, List.set_cons_succ]) | (refine takeW 6 (v := ?_) rfl (by decide +kernel) (by decide +kernel) (by decide +kernel) (fun _ _ _ h => h) (Or.inl ⟨by rfl, ?_⟩) ?_; rotate_left 1; (focus (intro W hW; go_simp; first | done | with_reducible rfl)); try simp only [Act.put, List.setIfInBounds_toArray, List.set_cons_zero, List.set_cons_succ]) | (refine takeW 6 rfl (by decide +kernel) (by decide +kernel) (by decide +kernel) (fun _ _ _ h => h) (Or.inr ⟨by rfl, rfl⟩) ?_; try simp only [Act.put, List.setIfInBounds_toArray, List.set_cons_zero, List.set_cons_succ]) | skip))
        refine stepT 8 rfl (by decide +kernel) (by rfl) ?_
        intro K hK
        refine wp_storeB flatPk (.tmp 5) (.tmp 12) rfl g5 rfl _ rfl b5.out.1 rfl rfl rfl ?_
        intro y k5 hg5 hs5
        have hge5 : w.heap.size + 1 + 1 + 1 ≤ g5 := lb5
        have hN6 := hN0.out
        refine hK _ _ (.inl (by decide)) ?_
        clear hK K
        try simp only [Act.put, List.setIfInBounds_toArray, List.set_cons_zero, List.set_cons_succ]
        ((first | (refine takeT 9 (v := ?_) rfl (by decide +kernel) (by decide +kernel) (by decide +kernel) (fun _ _ _ h => h) (by decide +kernel) (Or.inl ⟨by rfl, ?_⟩) ?_; rotate_left 1; (focus (intro W hW; have hcW := hW.at; (try dsimp only at hcW); go_simp; first | done | with_reducible rfl)); try simp only [Act.put, List.setIfInBounds_toArray, List.set_cons_zero, List.set_cons_succ]) | (refine takeW 9 (v := ?_) rfl (by decide +kernel) (by decide +kernel) (by decide +kernel) (fun _ _ _ h => h) (Or.inl ⟨by rfl, ?_⟩) ?_; rotate_left 1; (focus (intro W hW; go_simp; first | done | with_reducible rfl)); try simp only [Act.put, List.setIfInBounds_toArray, List.set_cons_zero, List.set_cons_succ]) | (refine takeW 9 rfl (by decide +kernel) (by decide +kernel) (by decide +kernel) (fun _ _ _ h => h) (Or.inr ⟨by rfl, rfl⟩) ?_; try simp only [Act.put, List.setIfInBounds_toArray, List.set_cons_zero, List.set_cons_succ]) | skip))
        refine doneT (by kernel_rfl) ?_
        exact ⟨g5, A', c', S', rfl, k5, b5.out.2, hge5, M.out.grown_new hg5 (by omega), Asr.grown hH2.out hg5 b5.out.2 (by omega) hN.out, ⟨grown_block hg5 b0.out.1 (fun e => by injection e; omega), b0.out.2⟩, ⟨grown_block hg5 b1.out.1 (fun e => by injection e; omega), b1.out.2⟩, ⟨grown_block hg5 b2.out.1 (fun e => by injection e; omega), b2.out.2⟩, ra.out.grown hg5 fun k hk => hk.2, by rw [hs5]; exact hN.out⟩
      · clear hi
        refine ⟨_, rfl, by rfl, ?_⟩
        intro K hK
        go_simp
        have lb5 := block_lt b2.out.1
        have nS : ¬ S u1.heap.size := fun hf => Nat.lt_irrefl _ (((hostA D W b x).ge hH.out _ hf).2)
        have bb := (Below.refl u1.heap.size u1).alloc (Nat.le_refl _) (pkZ)
        have hm := Mv.of_below S bb
        have sm := smOf hm b0.out b1.out
        replace b0 := Lib.hid (hm.box b0.out)
        replace b1 := Lib.hid (hm.box b1.out)
        replace b2 := Lib.hid (hm.box b2.out)
        replace M := Lib.hid (M.out.trans hm)
        replace hH := Lib.hid (Asr.below hH.out bb hN.out)
        replace hN := Lib.hid (Nat.le_trans hN.out hm.size)
        refine hK _ _ (.inr sm) ?_
        have b5 := Lib.hid (show (u1.alloc (pkZ)).heap[u1.heap.size]? = some (pkZ) ∧ ¬ S u1.heap.size from ⟨alloc1 u1 (pkZ), nS⟩)
        clear hK K hm sm bb nS
        try simp only [Act.put, List.setIfInBounds_toArray, List.set_cons_zero, List.set_cons_succ]
        generalize u1.alloc (pkZ) = u4 at b0 b1 b2 M hN hH b5 ⊢
        generalize u1.heap.size = g5 at b0 b1 b2 M hN hH b5 lb5 ⊢
        refine stepTA [3] (by decide +kernel) (by decide) ?_
        intro i hi
        obtain rfl : i = 3 := by simpa using hi
        clear hi
        refine ⟨_, rfl, by rfl, ?_⟩
        intro K hK
        go_simp
        refine (KS.out u4 hH.out hN.out (HL.out.belowN (M.out.belowN (fun k hk => (Hge.out k hk).1) hN0.out) hLN)).mono ?_
        rintro e u5 ⟨A', c', S', rfl, ra, hH2, hm⟩
        replace hH2 := Lib.hid hH2
        have hsx := block_lt b2.out.1
        replace ra := Lib.hid (ra.mono (G := fun k => (¬ S' k ∧ w.heap.size + 1 + 1 + 1 ≤ k) ∧ k ≠ g5) fun k hk => ⟨⟨hk.1, by omega⟩, fun e => by subst e; have := block_lt b5.out.1; omega⟩)
        clear hsx
        have sm := smOf hm b0.out b1.out
        replace b0 := Lib.hid (hm.box b0.out)
        replace b1 := Lib.hid (hm.box b1.out)
        replace b2 := Lib.hid (hm.box b2.out)
        replace M := Lib.hid (M.out.trans hm)
        replace b5 := Lib.hid (hm.box b5.out)
        replace hN := Lib.hid (Nat.le_trans hN.out hm.size)
        refine hK _ _ (.inr sm) ?_
        clear hK K hm sm
        try simp only [Act.put, List.setIfInBounds_toArray, List.set_cons_zero, List.set_cons_succ]
        ((first | (refine takeT 4 (v := ?_) rfl (by decide +kernel) (by decide +kernel) (by decide +kernel) (fun _ _ _ h => h) (by decide +kernel) (Or.inl ⟨by rfl, ?_⟩) ?_; rotate_left 1; (focus (intro W hW; have hcW := hW.at; (try dsimp only at hcW); go_simp; first | done | with_reducible rfl)); try simp only [Act.put, List.setIfInBounds_toArray, List.set_cons_zero, List.set_cons_succ]) | (refine takeW 4 (v := ?_) rfl (by decide +kernel) (by decide +kernel) (by decide +kernel) (fun _ _ _ h => h) (Or.inl ⟨by rfl, ?_⟩) ?_; rotate_left 1; (focus (intro W hW; go_simp; first | done | with_reducible rfl)); try simp only [Act.put, List.setIfInBounds_toArray, List.set_cons_zero, List.set_cons_succ]) | (refine takeW 4 rfl (by decide +kernel) (by decide +kernel) (by decide +kernel) (fun _ _ _ h => h) (Or.inr ⟨by rfl, rfl⟩) ?_; try simp only [Act.put, List.setIfInBounds_toArray, List.set_cons_zero, List.set_cons_succ]) | skip); (first | (refine takeT 5 (v := ?_) rfl (by decide +kernel) (by decide +kernel) (by decide +kernel) (fun _ _ _ h => h) (by decide +kernel) (Or.inl ⟨by rfl, ?_⟩) ?_; rotate_left 1; (focus (intro W hW; have hcW := hW.at; (try dsimp only at hcW); go_simp; first | done | with_reducible rfl)); try simp only [Act.put, List.setIfInBounds_toArray, List.set_cons_zero, List.set_cons_succ]) | (refine takeW 5 (v := ?_) rfl (by decide +kernel) (by decide +kernel) (by decide +kernel) (fun _ _ _ h => h) (Or.inl ⟨by rfl, ?_⟩) ?_; rotate_left 1; (focus (intro W hW; go_simp; first | done | with_reducible rfl)); try simp only [Act.put, List.setIfInBounds_toArray, List.set_cons_zero, List.set_cons_succ]) | (refine takeW 5 rfl (by decide +kernel) (by decide +kernel) (by decide +kernel) (fun _ _ _ h => h) (Or.inr ⟨by rfl, rfl⟩) ?_; try simp only [Act.put, List.setIfInBounds_toArray, List.set_cons_zero, List.set_cons_succ]) | skip); (first | (refine takeT 6 (v := ?_) rfl (by decide +kernel) (by decide +kernel) (by decide +kernel) (fun _ _ _ h => h) (by decide +kernel) (Or.inl ⟨by rfl, ?_⟩) ?_; rotate_left 1; (focus (intro W hW; have hcW := hW.at; (try dsimp only at hcW); go_simp; first | done | with_reducible rfl)); try simp only [Act.put, List.setIfInBounds_toArray, List.set_cons_zero, List.set_cons_succ]) | (refine takeW 6 (v := ?_) rfl (by decide +kernel) (by decide +kernel) (by decide +kernel) (fun _ _ _ h => h) (Or.inl ⟨by rfl, ?_⟩) ?_; rotate_left 1; (focus (intro W hW; go_simp; first | done | with_reducible rfl)); try simp only [Act.put, List.setIfInBounds_toArray, List.set_cons_zero, List.set_cons_succ]) | (refine takeW 6 rfl (by decide +kernel) (by decide +kernel) (by decide +kernel) (fun _ _ _ h => h) (Or.inr ⟨by rfl, rfl⟩) ?_; try simp only [Act.put, List.setIfInBounds_toArray, List.set_cons_zero, List.set_cons_succ]) | skip))
        refine stepT 8 rfl (by decide +kernel) (by rfl) ?_
        intro K hK
        refine wp_storeB flatPk (.tmp 5) (.tmp 12) rfl g5 rfl _ rfl b5.out.1 rfl rfl rfl ?_
        intro y k5 hg5 hs5
        have hge5 : w.heap.size + 1 + 1 + 1 ≤ g5 := lb5
        have hN6 := hN0.out
        refine hK _ _ (.inl (by decide)) ?_
        clear hK K
        try simp only [Act.put, List.setIfInBounds_toArray, List.set_cons_zero, List.set_cons_succ]
        ((first | (refine takeT 9 (v := ?_) rfl (by decide +kernel) (by decide +kernel) (by decide +kernel) (fun _ _ _ h => h) (by decide +kernel) (Or.inl ⟨by rfl, ?_⟩) ?_; rotate_left 1; (focus (intro W hW; have hcW := hW.at; (try dsimp only at hcW); go_simp; first | done | with_reducible rfl)); try simp only [Act.put, List.setIfInBounds_toArray, List.set_cons_zero, List.set_cons_succ]) | (refine takeW 9 (v := ?_) rfl (by decide +kernel) (by decide +kernel) (by decide +kernel) (fun _ _ _ h => h) (Or.inl ⟨by rfl, ?_⟩) ?_; rotate_left 1; (focus (intro W hW; go_simp; first | done | with_reducible rfl)); try simp only [Act.put, List.setIfInBounds_toArray, List.set_cons_zero, List.set_cons_succ]) | (refine takeW 9 rfl (by decide +kernel) (by decide +kernel) (by decide +kernel) (fun _ _ _ h => h) (Or.inr ⟨by rfl, rfl⟩) ?_; try simp only [Act.put, List.setIfInBounds_toArray, List.set_cons_zero, List.set_cons_succ]) | skip))
        refine doneT (by kernel_rfl) ?_
        exact ⟨g5, A', c', S', rfl, k5, b5.out.2, hge5, M.out.grown_new hg5 (by omega), Asr.grown hH2.out hg5 b5.out.2 (by omega) hN.out, ⟨grown_block hg5 b0.out.1 (fun e => by injection e; omega), b0.out.2⟩, ⟨grown_block hg5 b1.out.1 (fun e => by injection e; omega), b1.out.2⟩, ⟨grown_block hg5 b2.out.1 (fun e => by injection e; omega), b2.out.2⟩, ra.out.grown hg5 fun k hk => hk.2, by rw [hs5]; exact hN.out⟩
    · clear hi
      refine ⟨_, rfl, by rfl, ?_⟩
      intro K hK
      go_simp
      have lb5 := block_lt b2.out.1
      have nS : ¬ S x0.heap.size := fun hf => Nat.lt_irrefl _ (((hostA D W b x).ge hH.out _ hf).2)
      have bb := (Below.refl x0.heap.size x0).alloc (Nat.le_refl _) (pkZ)
      have hm := Mv.of_below S bb
      have sm := smOf hm b0.out b1.out
      replace b0 := Lib.hid (hm.box b0.out)
      replace b1 := Lib.hid (hm.box b1.out)
      replace b2 := Lib.hid (hm.box b2.out)
      replace M := Lib.hid (M.out.trans hm)
      replace hH := Lib.hid (Asr.below hH.out bb hN.out)
      replace hN := Lib.hid (Nat.le_trans hN.out hm.size)
      refine hK _ _ (.inr sm) ?_
      have b5 := Lib.hid (show (x0.alloc (pkZ)).heap[x0.heap.size]? = some (pkZ) ∧ ¬ S x0.heap.size from ⟨alloc1 x0 (pkZ), nS⟩)
      clear hK K hm sm bb nS
      try simp only [Act.put, List.setIfInBounds_toArray, List.set_cons_zero, List.set_cons_succ]
      generalize x0.alloc (pkZ) = u6 at b0 b1 b2 M hN hH b5 ⊢
      generalize x0.heap.size = g5 at b0 b1 b2 M hN hH b5 lb5 ⊢
      refine stepTA [2] (by decide +kernel) (by decide) ?_
      intro i hi
      obtain rfl : i = 2 := by simpa using hi
      clear hi
      refine ⟨_, rfl, by rfl, ?_⟩
      intro K hK
      go_simp
      refine (KT.out u6).mono ?_
      rintro e u7 ⟨rfl, bb⟩
      have hm := Mv.of_below S bb
      have sm := smOf hm b0.out b1.out
      replace b0 := Lib.hid (hm.box b0.out)
      replace b1 := Lib.hid (hm.box b1.out)
      replace b2 := Lib.hid (hm.box b2.out)
      replace M := Lib.hid (M.out.trans hm)
      replace hH := Lib.hid (Asr.below hH.out bb hN.out)
      replace b5 := Lib.hid (hm.box b5.out)
      replace hN := Lib.hid (Nat.le_trans hN.out hm.size)
      refine hK _ _ (.inr sm) ?_
      clear hK K hm sm bb
      try simp only [Act.put, List.setIfInBounds_toArray, List.set_cons_zero, List.set_cons_succ]
      refine stepTA [3] (by decide +kernel) (by decide) ?_
      intro i hi
      obtain rfl : i = 3 := by simpa using hi
      clear hi
      refine ⟨_, rfl, by rfl, ?_⟩
      intro K hK
      go_simp
      refine (KS.out u7 hH.out hN.out (HL.out.belowN (M.out.belowN (fun k hk => (Hge.out k hk).1) hN0.out) hLN)).mono ?_
      rintro e u8 ⟨A', c', S', rfl, ra, hH2, hm⟩
      replace hH2 := Lib.hid hH2
      have hsx := block_lt b2.out.1
      replace ra := Lib.hid (ra.mono (G := fun k => (¬ S' k ∧ w.heap.size + 1 + 1 + 1 ≤ k) ∧ k ≠ g5) fun k hk => ⟨⟨hk.1, by omega⟩, fun e => by subst e; have := block_lt b5.out.1; omega⟩)
      clear hsx
      have sm := smOf hm b0.out b1.out
      replace b0 := Lib.hid (hm.box b0.out)
      replace b1 := Lib.hid (hm.box b1.out)
      replace b2 := Lib.hid (hm.box b2.out)
      replace M := Lib.hid (M.out.trans hm)
      replace b5 := Lib.hid (hm.box b5.out)
      replace hN := Lib.hid (Nat.le_trans hN.out hm.size)
      refine hK _ _ (.inr sm) ?_
      clear hK K hm sm
      try simp only [Act.put, List.setIfInBounds_toArray, List.set_cons_zero, List.set_cons_succ]
      ((first | (refine takeT 4 (v := ?_) rfl (by decide +kernel) (by decide +kernel) (by decide +kernel) (fun _ _ _ h => h) (by decide +kernel) (Or.inl ⟨by rfl, ?_⟩) ?_; rotate_left 1; (focus (intro W hW; have hcW := hW.at; (try dsimp only at hcW); go_simp; first | done | with_reducible rfl)); try simp only [Act.put, List.setIfInBounds_toArray, List.set_cons_zero, List.set_cons_succ]) | (refine takeW 4 (v := ?_) rfl (by decide +kernel) (by decide +kernel) (by decide +kernel) (fun _ _ _ h => h) (Or.inl ⟨by rfl, ?_⟩) ?_; rotate_left 1; (focus (intro W hW; go_simp; first | done | with_reducible rfl)); try simp only [Act.put, List.setIfInBounds_toArray, List.set_cons_zero, List.set_cons_succ]) | (refine takeW 4 rfl (by decide +kernel) (by decide +kernel) (by decide +kernel) (fun _ _ _ h => h) (Or.inr ⟨by rfl, rfl⟩) ?_; try simp only [Act.put, List.setIfInBounds_toArray, List.set_cons_zero, List.set_cons_succ]) | skip); (first | (refine takeT 5 (v := ?_) rfl (by decide +kernel) (by decide +kernel) (by decide +kernel) (fun _ _ _ h => h) (by decide +kernel) (Or.inl ⟨by rfl, ?_⟩) ?_; rotate_left 1; (focus (intro W hW; have hcW := hW.at; (try dsimp only at hcW); go_simp; first | done | with_reducible rfl)); try simp only [Act.put, List.setIfInBounds_toArray, List.set_cons_zero, List.set_cons_succ]) | (refine takeW 5 (v := ?_) rfl (by decide +kernel) (by decide +kernel) (by decide +kernel) (fun _ _ _ h => h) (Or.inl ⟨by rfl, ?_⟩) ?_; rotate_left 1; (focus (intro W hW; go_simp; first | done | with_reducible rfl)); try simp only [Act.put, List.setIfInBounds_toArray, List.set_cons_zero, List.set_cons_succ]) | (refine takeW 5 rfl (by decide +kernel) (by decide +kernel) (by decide +kernel) (fun _ _ _ h => h) (Or.inr ⟨by rfl, rfl⟩) ?_; try simp only [Act.put, List.setIfInBounds_toArray, List.set_cons_zero, List.set_cons_succ]) | skip); (first | (refine takeT 6 (v := ?_) rfl (by decide +kernel) (by decide +kernel) (by decide +kernel) (fun _ _ _ h => h) (by decide +kernel) (Or.inl ⟨by rfl, ?_⟩) ?_; rotate_left 1; (focus (intro W hW; have hcW := hW.at; (try dsimp only at hcW); go_simp; first | done | with_reducible rfl)); try simp only [Act.put, List.setIfInBounds_toArray, List.set_cons_zero, List.set_cons_succ]) | (refine takeW 6 (v := ?_) rfl (by decide +kernel) (by decide +kernel) (by decide +kernel) (fun _ _ _ h => h) (Or.inl ⟨by rfl, ?_⟩) ?_; rotate_left 1; (focus (intro W hW; go_simp; first | done | with_reducible rfl)); try simp only [Act.put, List.setIfInBounds_toArray, List.set_cons_zero, List.set_cons_succ]) | (refine takeW 6 rfl (by decide +kernel) (by decide +kernel) (by decide +kernel) (fun _ _ _ h => h) (Or.inr ⟨by rfl, rfl⟩) ?_; try simp only [Act.put, List.setIfInBounds_toArray, List.set_cons_zero, List.set_cons_succ]) | skip))
      refine stepT 8 rfl (by decide +kernel) (by rfl) ?_
      intro K hK
      refine wp_storeB flatPk (.tmp 5) (.tmp 12) rfl g5 rfl _ rfl b5.out.1 rfl rfl rfl ?_
      intro y k5 hg5 hs5
      have hge5 : w.heap.size + 1 + 1 + 1 ≤ g5 := lb5
      have hN6 := hN0.out
      refine hK _ _ (.inl (by decide)) ?_
      clear hK K
      try simp only [Act.put, List.setIfInBounds_toArray, List.set_cons_zero, List.set_cons_succ]
      ((first | (refine takeT 9 (v := ?_) rfl (by decide +kernel) (by decide +kernel) (by decide +kernel) (fun _ _ _ h => h) (by decide +kernel) (Or.inl ⟨by rfl, ?_⟩) ?_; rotate_left 1; (focus (intro W hW; have hcW := hW.at; (try dsimp only at hcW); go_simp; first | done | with_reducible rfl)); try simp only [Act.put, List.setIfInBounds_toArray, List.set_cons_zero, List.set_cons_succ]) | (refine takeW 9 (v := ?_) rfl (by decide +kernel) (by decide +kernel) (by decide +kernel) (fun _ _ _ h => h) (Or.inl ⟨by rfl, ?_⟩) ?_; rotate_left 1; (focus (intro W hW; go_simp; first | done | with_reducible rfl)); try simp only [Act.put, List.setIfInBounds_toArray, List.set_cons_zero, List.set_cons_succ]) | (refine takeW 9 rfl (by decide +kernel) (by decide +kernel) (by decide +kernel) (fun _ _ _ h => h) (Or.inr ⟨by rfl, rfl⟩) ?_; try simp only [Act.put, List.setIfInBounds_toArray, List.set_cons_zero, List.set_cons_succ]) | skip))
      refine doneT (by kernel_rfl) ?_
      exact ⟨g5, A', c', S', rfl, k5, b5.out.2, hge5, M.out.grown_new hg5 (by omega), Asr.grown hH2.out hg5 b5.out.2 (by omega) hN.out, ⟨grown_block hg5 b0.out.1 (fun e => by injection e; omega), b0.out.2⟩, ⟨grown_block hg5 b1.out.1 (fun e => by injection e; omega), b1.out.2⟩, ⟨grown_block hg5 b2.out.1 (fun e => by injection e; omega), b2.out.2⟩, ra.out.grown hg5 fun k hk => hk.2, by rw [hs5]; exact hN.out⟩
  clear X0
  rintro act y ⟨g5, A', c', S', rfl, k5, n5, hge5, M, hH, b0, b1, b2, ra, hNy⟩
  have c0 := block_at k5 (i := 0) (v := .int .u8 (a.pid : Int)) rfl
  have c9 := block_at k5 (i := 9) (v := .slice A' a.data.length c') rfl
  obtain ⟨e0, e1, e2, e3, e4, e5, e6⟩ := tr_cells b1.1
  have HLy := Lib.hid (HL.out.belowN (M.belowN (fun k hk => (Hge.out k hk).1) hN0.out) hLN)
  have B0 := Lib.hid b0
  have B1 := Lib.hid b1
  have B2 := Lib.hid b2
  have HM := Lib.hid M
  have HH := Lib.hid hH
  have Hra := Lib.hid ra
  have HNy := Lib.hid hNy
  have K5 := Lib.hid (show _ ∧ _ from ⟨k5, n5⟩)
  have Hge5 := Lib.hid hge5
  have KH := Lib.hid fun X => hand_any X t A c a.pid
  clear b0 b1 b2 M hH ra hNy k5 n5 hge5
  obtain ⟨b3, hb3⟩ : ∃ b3, (a.pid == 3) = b3 := ⟨_, rfl⟩
  obtain ⟨b11, hb11⟩ : ∃ b11, (a.pid == 11) = b11 := ⟨_, rfl⟩
  obtain ⟨bq, hbq⟩ : ∃ bq, (a.pid == dpid t.tog) = bq := ⟨_, rfl⟩
  have i3 : ((a.pid : Int) != 3) = !b3 := by rw [bne, show ((a.pid : Int) == 3) = (a.pid == 3) from castEq a.pid 3, hb3]
  have i11 : ((a.pid : Int) != 11) = !b11 := by rw [bne, show ((a.pid : Int) == 11) = (a.pid == 11) from castEq a.pid 11, hb11]
  have iq : ((a.pid : Int) != (dpid t.tog : Int)) = !bq := by rw [bne, castEq, hbq]
  have Hb3 := Lib.hid hb3
  have Hb11 := Lib.hid hb11
  have Hbq := Lib.hid hbq
  clear hb3 hb11 hbq
  by_cases hpid : b3 = false ∧ b11 = false
  · obtain ⟨rfl, rfl⟩ := hpid
    have HR1 : (x', res, out) = (x1, hsR t.what t.iso a.pid, []) := by
      rw [← HR0.out, if_pos ⟨by simpa using Hb3.out, by simpa using Hb11.out⟩]
    obtain ⟨rfl, rfl, rfl⟩ := triple_eq HR1
    clear iq e0 e1 e2 e3 e4 e5 e6 c9
    go_wp2_with (refine wpl_loadB flatTry rfl (.tmp 3) rfl _ rfl B1.out.1 rfl ?_)
    refine (KH.out y).mono ?_
    rintro e y1 ⟨rfl, bb⟩
    have B21 := Lib.hid ((bb.block _ (block_lt B2.out.1)).trans B2.out.1)
    have HH1 := Lib.hid (Asr.below HH.out bb HNy.out)
    have HM1 := Lib.hid (HM.out.trans (Mv.of_below _ bb))
    have HN1 := Lib.hid (Nat.le_trans HNy.out bb.size)
    clear bb c0
    go_wp2_with (refine wpl_storeB flatOut rfl (.tmp 4) (.tmp 26) rfl _ rfl _ rfl B21.out rfl rfl rfl ?_; intro y5 k2 hg5 hs5)
    refine bodyPost_ret (ret_cell flatOut rfl _ (w.heap.size + 1 + 1) rfl k2 rfl) rfl ?_
    exact ⟨none, 0, _, rfl, RdU.nil _, Asr.grown HH1.out hg5 B2.out.2 (by have := hN0.out; omega) HN1.out, HM1.out.grown_new hg5 (by omega)⟩
  · have hpid' : (b3 = true ∧ True) ∨ (b3 = false ∧ b11 = true) := by cases b3 <;> cases b11 <;> simp_all
    have Hpn : ¬ (a.pid ≠ 3 ∧ a.pid ≠ 11) := fun h => hpid ⟨by have := Hb3.out; rw [← this]; simpa using h.1, by have := Hb11.out; rw [← this]; simpa using h.2⟩
    clear hpid
    rw [if_neg Hpn] at HR0
    clear Hpn
    have hmax := Lib.hid (rfl : t.max = t.max)
    by_cases hmx : t.max < (a.data.length : Int)
    · have HR1 : (x', res, out) = (x1, 5, []) := by rw [← HR0.out, if_pos hmx]
      obtain ⟨rfl, rfl, rfl⟩ := triple_eq HR1
      clear HR1 iq
      rcases hpid' with ⟨rfl, _⟩ | ⟨rfl, rfl⟩
      all_goals
        go_wp2_with (refine wpl_storeB flatOut rfl (.tmp 4) (.tmp 33) rfl _ rfl _ rfl B2.out.1 rfl rfl rfl ?_; intro y5 k2 hg5 hs5)
        refine bodyPost_ret (ret_cell flatOut rfl _ (w.heap.size + 1 + 1) rfl k2 rfl) rfl ?_
        exact ⟨none, 0, _, rfl, RdU.nil _, Asr.grown HH.out hg5 B2.out.2 (by have := hN0.out; omega) HNy.out, HM.out.grown_new hg5 (by omega)⟩
    · rw [if_neg hmx] at HR0
      cases hiso : t.iso
      · have hiso' := Lib.hid hiso
        rw [hiso] at HR0 e4
        clear hiso
        have HR1 : (x', res, out) = (x2, if a.pid = dpid t.tog then (1, a.data) else (6, [])) := by rw [← HR0.out, if_neg (by simp)]
        have HR2 := Lib.hid HR1
        clear HR1
        rcases hpid' with ⟨rfl, _⟩ | ⟨rfl, rfl⟩
        all_goals
          go_wp2_with (refine wpl_loadB flatHost rfl (.tmp 2) rfl _ rfl B0.out.1 rfl ?_)
          refine (KA.out y _ HH.out HNy.out HLy.out).mono ?_
          rintro e z ⟨A2, c2, S2, rfl, _, hH2, hm⟩
          have hk5 := hm.box K5.out
          have hb1 := hm.box B1.out
          have hb2 := hm.box B2.out
          have hra2 : RdU (fun k => (¬ S2 k ∧ w.heap.size + 1 + 1 + 1 ≤ k) ∧ k ≠ g5) z A' c' a.data := (Hra.out.lt.keep fun k hk => hm.keep k hk.2 hk.1.1.1).mono fun k hk => ⟨⟨hm.gone hk.2 hk.1.1.1, hk.1.1.2⟩, hk.1.2⟩
          have hNz := Nat.le_trans HNy.out hm.size
          clear c0 c9 e0 e1 e2 e3 e4 e5 e6
          have c0 := block_at hk5.1 (i := 0) (v := .int .u8 (a.pid : Int)) rfl
          have c9 := block_at hk5.1 (i := 9) (v := .slice A' a.data.length c') rfl
          have e3 := block_at hb1.1 (i := 3) (v := .bool t.tog) rfl
          have D2 := Lib.hid hb2
          have HMz := Lib.hid (HM.out.trans hm)
          have HH2 := Lib.hid hH2
          have Hra2 := Lib.hid hra2
          have HNz := Lib.hid hNz
          clear hk5 hb1 hb2 hra2 hNz hH2 hm
          go_wp2
          refine startT (S := fun q => q.block = g5 ∨ q.block = w.heap.size + 1) (T := []) 6 (by kernel_rfl) rfl (l := #[false, false, false, false, false, false]) rfl ?_
          ((first | (refine takeT 0 (v := ?_) rfl (by decide +kernel) (by decide +kernel) (by decide +kernel) (fun _ _ _ h => h) (by decide +kernel) (Or.inl ⟨by rfl, ?_⟩) ?_; rotate_left 1; (focus (intro W hW; have hcW := hW.at; (try dsimp only at hcW); go_simp; first | done | with_reducible rfl)); try simp only [Act.put, List.setIfInBounds_toArray, List.set_cons_zero, List.set_cons_succ]) | (refine takeW 0 (v := ?_) rfl (by decide +kernel) (by decide +kernel) (by decide +kernel) (fun _ _ _ h => h) (Or.inl ⟨by rfl, ?_⟩) ?_; rotate_left 1; (focus (intro W hW; go_simp; first | done | with_reducible rfl)); try simp only [Act.put, List.setIfInBounds_toArray, List.set_cons_zero, List.set_cons_succ]) | (refine takeW 0 rfl (by decide +kernel) (by decide +kernel) (by decide +kernel) (fun _ _ _ h => h) (Or.inr ⟨by rfl, rfl⟩) ?_; try simp only [Act.put, List.setIfInBounds_toArray, List.set_cons_zero, List.set_cons_succ]) | skip); (first | (refine takeT 1 (v := ?_) rfl (by decide +kernel) (by decide +kernel) (by decide +kernel) (fun _ _ _ h => h) (by decide +kernel) (Or.inl ⟨by rfl, ?_⟩) ?_; rotate_left 1; (focus (intro W hW; have hcW := hW.at; (try dsimp only at hcW); go_simp; first | done | with_reducible rfl)); try simp only [Act.put, List.setIfInBounds_toArray, List.set_cons_zero, List.set_cons_succ]) | (refine takeW 1 (v := ?_) rfl (by decide +kernel) (by decide +kernel) (by decide +kernel) (fun _ _ _ h => h) (Or.inl ⟨by rfl, ?_⟩) ?_; rotate_left 1; (focus (intro W hW; go_simp; first | done | with_reducible rfl)); try simp only [Act.put, List.setIfInBounds_toArray, List.set_cons_zero, List.set_cons_succ]) | (refine takeW 1 rfl (by decide +kernel) (by decide +kernel) (by decide +kernel) (fun _ _ _ h => h) (Or.inr ⟨by rfl, rfl⟩) ?_; try simp only [Act.put, List.setIfInBounds_toArray, List.set_cons_zero, List.set_cons_succ]) | skip); (first | (refine takeT 2 (v := ?_) rfl (by decide +kernel) (by decide +kernel) (by decide +kernel) (fun _ _ _ h => h) (by decide +kernel) (Or.inl ⟨by rfl, ?_⟩) ?_; rotate_left 1; (focus (intro W hW; have hcW := hW.at; (try dsimp only at hcW); go_simp; first | done | with_reducible rfl)); try simp only [Act.put, List.setIfInBounds_toArray, List.set_cons_zero, List.set_cons_succ]) | (refine takeW 2 (v := ?_) rfl (by decide +kernel) (by decide +kernel) (by decide +kernel) (fun _ _ _ h => h) (Or.inl ⟨by rfl, ?_⟩) ?_; rotate_left 1; (focus (intro W hW; go_simp; first | done | with_reducible rfl)); try simp only [Act.put, List.setIfInBounds_toArray, List.set_cons_zero, List.set_cons_succ]) | (refine takeW 2 rfl (by decide +kernel) (by decide +kernel) (by decide +kernel) (fun _ _ _ h => h) (Or.inr ⟨by rfl, rfl⟩) ?_; try simp only [Act.put, List.setIfInBounds_toArray, List.set_cons_zero, List.set_cons_succ]) | skip); (first | (refine takeT 3 (v := ?_) rfl (by decide +kernel) (by decide +kernel) (by decide +kernel) (fun _ _ _ h => h) (by decide +kernel) (Or.inl ⟨by rfl, ?_⟩) ?_; rotate_left 1; (focus (intro W hW; have hcW := hW.at; (try dsimp only at hcW); go_simp; first | done | with_reducible rfl)); try simp only [Act.put, List.setIfInBounds_toArray, List.set_cons_zero, List.set_cons_succ]) | (refine takeW 3 (v := ?_) rfl (by decide +kernel) (by decide +kernel) (by decide +kernel) (fun _ _ _ h => h) (Or.inl ⟨by rfl, ?_⟩) ?_; rotate_left 1; (focus (intro W hW; go_simp; first | done | with_reducible rfl)); try simp only [Act.put, List.setIfInBounds_toArray, List.set_cons_zero, List.set_cons_succ]) | (refine takeW 3 rfl (by decide +kernel) (by decide +kernel) (by decide +kernel) (fun _ _ _ h => h) (Or.inr ⟨by rfl, rfl⟩) ?_; try simp only [Act.put, List.setIfInBounds_toArray, List.set_cons_zero, List.set_cons_succ]) | skip))
          refine stepT 4 rfl (by decide +kernel) (by rfl) ?_
          intro K hK
          go_simp
          refine (dpid_any _ t.tog).mono ?_
          rintro e z1 ⟨rfl, rfl⟩
          refine hK _ _ (.inr (Sm.refl _ _)) ?_
          clear hK K
          try simp only [Act.put, List.setIfInBounds_toArray, List.set_cons_zero, List.set_cons_succ]
          ((first | (refine takeT 5 (v := ?_) rfl (by decide +kernel) (by decide +kernel) (by decide +kernel) (fun _ _ _ h => h) (by decide +kernel) (Or.inl ⟨by rfl, ?_⟩) ?_; rotate_left 1; (focus (intro W hW; have hcW := hW.at; (try dsimp only at hcW); go_simp; first | done | with_reducible rfl)); try simp only [Act.put, List.setIfInBounds_toArray, List.set_cons_zero, List.set_cons_succ]) | (refine takeW 5 (v := ?_) rfl (by decide +kernel) (by decide +kernel) (by decide +kernel) (fun _ _ _ h => h) (Or.inl ⟨by rfl, ?_⟩) ?_; rotate_left 1; (focus (intro W hW; go_simp; first | done | with_reducible rfl)); try simp only [Act.put, List.setIfInBounds_toArray, List.set_cons_zero, List.set_cons_succ]) | (refine takeW 5 rfl (by decide +kernel) (by decide +kernel) (by decide +kernel) (fun _ _ _ h => h) (Or.inr ⟨by rfl, rfl⟩) ?_; try simp only [Act.put, List.setIfInBounds_toArray, List.set_cons_zero, List.set_cons_succ]) | skip))
          refine doneT (by kernel_rfl) ?_
          cases bq
          · have HR1 : (x', res, out) = (x2, 6, []) := by rw [HR2.out, if_neg (by simpa using Hbq.out)]
            obtain ⟨rfl, rfl, rfl⟩ := triple_eq HR1
            go_wp2_with (refine wpl_storeB (w := World.drew z) flatOut rfl (.tmp 4) (.tmp 46) rfl (w.heap.size + 1 + 1) rfl _ rfl D2.out.1 rfl rfl rfl ?_; intro y5 k2 hg5 hs5)
            refine bodyPost_ret (ret_cell flatOut rfl _ (w.heap.size + 1 + 1) rfl k2 rfl) rfl ?_
            exact ⟨none, 0, _, rfl, RdU.nil _, Asr.grown (Asr.drew HH2.out) hg5 D2.out.2 (by have := hN0.out; omega) HNz.out, HMz.out.drew.grown_new hg5 (by omega)⟩
          · have HR1 : (x', res, out) = (x2, 1, a.data) := by rw [HR2.out, if_pos (by simpa using Hbq.out)]
            obtain ⟨rfl, rfl, rfl⟩ := triple_eq HR1
            go_wp2_with (refine wpl_storeB (w := World.drew z) flatOut rfl (.tmp 4) (.tmp 49) rfl (w.heap.size + 1 + 1) rfl _ rfl D2.out.1 rfl rfl rfl ?_; intro y5 k2 hg5 hs5)
            refine bodyPost_ret (ret_cell flatOut rfl _ (w.heap.size + 1 + 1) rfl k2 rfl) rfl ?_
            exact ⟨A', c', _, rfl, (Hra2.out.drew.grown hg5 fun k hk e => by have := hk.1.2; omega).mono fun k hk => ⟨hk.1.1, by have := hk.1.2; omega⟩, Asr.grown (Asr.drew HH2.out) hg5 D2.out.2 (by have := hN0.out; omega) HNz.out, HMz.out.drew.grown_new hg5 (by omega)⟩
      · rw [hiso] at HR0 e4
        clear hiso
        have HR1 : (x', res, out) = (x1, 1, a.data) := by rw [← HR0.out, if_pos rfl]
        obtain ⟨rfl, rfl, rfl⟩ := triple_eq HR1
        clear HR1 iq
        rcases hpid' with ⟨rfl, _⟩ | ⟨rfl, rfl⟩
        all_goals
          go_wp2_with (refine wpl_storeB flatOut rfl (.tmp 4) (.tmp 49) rfl _ rfl _ rfl B2.out.1 rfl rfl rfl ?_; intro y5 k2 hg5 hs5)
          refine bodyPost_ret (ret_cell flatOut rfl _ (w.heap.size + 1 + 1) rfl k2 rfl) rfl ?_
          exact ⟨A', c', _, rfl, (Hra.out.grown hg5 fun k hk e => by have := hk.1.2; omega).mono fun k hk => ⟨hk.1.1, by have := hk.1.2; omega⟩, Asr.grown HH.out hg5 B2.out.2 (by have := hN0.out; omega) HNy.out, HM.out.grown_new hg5 (by omega)⟩
end

end Go.Proofs.YtgihpgdjkanodaaGreatDoor

namespace Go.Proofs.YtgihpgdjkanodaaGreatDoor
open Go Go.RowKit

section
variable {N : Nat} {σ τ : Type} {D : σ → Asr N} {W : τ → Asr N} {next : τ → τ × Nat} {wv dv : Value} {b : Nat} {ask : σ → τ → List SentP → Pkt → (σ × τ × List SentP) × Pkt × Bool}

theorem pair_eq {α β : Type} {x y : α} {a b : β} (h : (x, a) = (y, b)) : x = y ∧ a = b := by
  cases h
  exact ⟨rfl, rfl⟩
/-- Behind the token. -/
def openR (next : τ → τ × Nat) (ask : σ → τ → List SentP → Pkt → (σ × τ × List SentP) × Pkt × Bool) (x : σ × τ × List SentP) (t : Tr) : σ × τ × List SentP :=
  if (next x.2.1).2 = 0 then (ask x.1 (next x.2.1).1 (x.2.2 ++ [(tokP t, true, (next x.2.1).2)]) (tokP t)).1 else (x.1, (next x.2.1).1, x.2.2 ++ [(tokP t, true, (next x.2.1).2)])
/-- Behind the data. -/
def dataR (next : τ → τ × Nat) (ask : σ → τ → List SentP → Pkt → (σ × τ × List SentP) × Pkt × Bool) (opened : Bool) (x : σ × τ × List SentP) (t : Tr) : (σ × τ × List SentP) × Pkt × Bool :=
  if (next x.2.1).2 = 0 ∧ opened = true then ask x.1 (next x.2.1).1 (x.2.2 ++ [(datP t, true, (next x.2.1).2)]) (datP t) else ((x.1, (next x.2.1).1, x.2.2 ++ [(datP t, true, (next x.2.1).2)]), zeroP, false)
/-- What writing comes to. -/
def writeR (next : τ → τ × Nat) (ask : σ → τ → List SentP → Pkt → (σ × τ × List SentP) × Pkt × Bool) (x : σ × τ × List SentP) (t : Tr) : (σ × τ × List SentP) × Nat :=
  ((dataR next ask ((next x.2.1).2 == 0) (openR next ask x t) t).1, if t.iso = true then 1 else hsR t.what t.iso (dataR next ask ((next x.2.1).2 == 0) (openR next ask x t) t).2.1.pid)

theorem AskLen.open_ (h : AskLen ask) (next : τ → τ × Nat) (x : σ × τ × List SentP) (t : Tr) : (openR next ask x t).2.2.length ≤ x.2.2.length + 2 := by
  unfold openR
  split
  · have := h x.1 (next x.2.1).1 (x.2.2 ++ [(tokP t, true, (next x.2.1).2)]) (tokP t)
    rw [List.length_append] at this
    exact this
  · show (x.2.2 ++ _).length ≤ _
    rw [List.length_append]
    simp
theorem AskJ.open_ {J : σ → List SentP → Prop} (h : AskJ ask J) (next : τ → τ × Nat) (x : σ × τ × List SentP) (t : Tr) (hj : J x.1 x.2.2) : J (openR next ask x t).1 (openR next ask x t).2.2 := by
  unfold openR
  split
  · exact h.ask _ _ _ _ _ hj
  · exact h.add _ _ _ hj
theorem AskLen.data_ (h : AskLen ask) (next : τ → τ × Nat) (o : Bool) (x : σ × τ × List SentP) (t : Tr) : (dataR next ask o x t).1.2.2.length ≤ x.2.2.length + 2 := by
  unfold dataR
  split
  · have := h x.1 (next x.2.1).1 (x.2.2 ++ [(datP t, true, (next x.2.1).2)]) (datP t)
    rw [List.length_append] at this
    exact this
  · show (x.2.2 ++ _).length ≤ _
    rw [List.length_append]
    simp

theorem RdS.mvlt {S S' : Nat → Prop} {w X : World} {A : Option Addr} {c : Nat} {xs : List UInt8} (h : RdS (fun k => ¬ S k ∧ k < w.heap.size) w A c xs) (hm : Mv S w S' X) : RdS (fun k => ¬ S' k) X A c xs :=
  (h.keep fun k hk => hm.keep k hk.2 hk.1).mono fun k hk => hm.gone hk.2 hk.1
theorem host_send (hW : WireOK W next wv) (dv : Value) (w : World) (b : Nat) (x : σ × τ × List SentP) (S : Nat → Prop) (h : (hostA D W b x).holds S w) (p : Pkt) (ok : p.Ok) (hb : Bool) (A : Option Addr) (c : Nat) (hr : RdS (fun k => ¬ S k) w A c p.data)
    (hl : x.2.2.length ≤ 1000000) (hN : N ≤ w.heap.size) :
    Calls Tryz.prog 67 #[hostV dv wv b, pkV p A c, .bool hb] w (Post (hostA D W b (x.1, (next x.2.1).1, x.2.2 ++ [(p, hb, (next x.2.1).2)])) S w (.bool ((next x.2.1).2 == 0))) := by
  obtain ⟨FD, FR, hA, hR, hd, rfl⟩ := Asr.sep_eq h
  refine (send_any hW dv w b x.2.1 x.2.2 FR hR p ok hb A c (hr.mono fun k hk hf => hk (.inr hf)) hl hN).mono ?_
  rintro e w' ⟨rfl, S', h1, hm⟩
  obtain ⟨h2, h3⟩ := Asr.sep_right hA hR hd h1 hm hN
  exact ⟨rfl, _, h2, h3⟩

set_option maxHeartbeats 6400000 in
set_option maxRecDepth 100000 in
theorem write_any {J : σ → List SentP → Prop} (hW : WireOK W next wv) (hA : AskC D W b dv wv ask J) (hAl : AskLen ask) (hAj : AskJ ask J) (hLN : 0 < N) (w : World) (x : σ × τ × List SentP) (hj : J x.1 x.2.2) (S : Nat → Prop) (h : (hostA D W b x).holds S w) (t : Tr) (ok : t.Ok) (A : Option Addr) (c : Nat)
    (hr : RdS (fun k => ¬ S k) w A c t.data) (hl : x.2.2.length ≤ 999990) (hN : N ≤ w.heap.size) (hL : Laid w) :
    Calls Tryz.prog 70 #[hostV dv wv b, trV t A c] w (Post (hostA D W b (writeR next ask x t).1) S w (.int .u8 ((writeR next ask x t).2 : Int))) := by
  have hlen := hAl.open_ next x t
  have hj2 := hAj.open_ next x t hj
  have KT := Lib.hid fun X => token_any X t A c
  have KS := Lib.hid fun (X : World) (hX : (hostA D W b x).holds S X) (hN : N ≤ X.heap.size) => host_send hW dv X b x S hX (tokP t) (tokP_ok ok) true none 0 (RdS.nil X) (by omega) hN
  have KA := Lib.hid fun (X : World) (S : Nat → Prop) (hX : (hostA D W b (x.1, (next x.2.1).1, x.2.2 ++ [(tokP t, true, (next x.2.1).2)])).holds S X) (hN : N ≤ X.heap.size) (hL : Laid X) => hA X x.1 (next x.2.1).1 (x.2.2 ++ [(tokP t, true, (next x.2.1).2)]) S ⟨_, _, rfl, hj⟩ hX (tokP t) (tokP_ok ok) none 0 (RdS.nil X) (by rw [List.length_append]; simp only [List.length_cons, List.length_nil]; omega) hN hL
  obtain ⟨R, hR0⟩ : ∃ R, writeR next ask x t = R := ⟨_, rfl⟩
  rw [hR0]
  unfold writeR at hR0
  obtain ⟨y2, hy2⟩ : ∃ y2, openR next ask x t = y2 := ⟨_, rfl⟩
  rw [hy2] at hR0 hlen hj2
  obtain ⟨fb, hfb⟩ : ∃ fb, ((next x.2.1).2 == 0) = fb := ⟨_, rfl⟩
  rw [hfb] at hR0 KS
  unfold openR at hy2
  have KS2 := Lib.hid fun (X : World) (S : Nat → Prop) (hX : (hostA D W b y2).holds S X) (hr : RdS (fun k => ¬ S k) X A c (datP t).data) (hN : N ≤ X.heap.size) => host_send hW dv X b y2 S hX (datP t) (datP_ok ok) true A c hr (by omega) hN
  have KA2 := Lib.hid fun (X : World) (S : Nat → Prop) (hX : (hostA D W b (y2.1, (next y2.2.1).1, y2.2.2 ++ [(datP t, true, (next y2.2.1).2)])).holds S X) (hr : RdS (fun k => ¬ S k) X A c (datP t).data) (hN : N ≤ X.heap.size) (hL : Laid X) => hA X y2.1 (next y2.2.1).1 (y2.2.2 ++ [(datP t, true, (next y2.2.1).2)]) S ⟨_, _, rfl, hj2⟩ hX (datP t) (datP_ok ok) A c hr (by rw [List.length_append]; simp only [List.length_cons, List.length_nil]; omega) hN hL
  obtain ⟨fb2, hfb2⟩ : ∃ fb2, ((next y2.2.1).2 == 0) = fb2 := ⟨_, rfl⟩
  rw [hfb2] at KS2
  obtain ⟨x', res⟩ := R
  have hge : ∀ k, S k → N ≤ k ∧ k < w.heap.size := fun k hk => (hostA D W b x).ge h k hk
  obtain ⟨g0, g1, g2, g3⟩ := alloc2 w (.cells #[dv, wv, noteV b] 127) (trB t A c)
  have X0 : Hid (Mv S w S _ ∧ (_ ∧ ¬ S w.heap.size) ∧ (_ ∧ ¬ S (w.heap.size + 1)) ∧ (hostA D W b x).holds S _ ) :=
    Lib.hid ⟨Mv.of_below S g3, ⟨g0, fun hf => by have := (hge _ hf).2; omega⟩, ⟨g1, fun hf => by have := (hge _ hf).2; omega⟩, Asr.below h g3 hN⟩
  have Hr := Lib.hid hr.lt
  have HR0 := Lib.hid hR0
  have Hy2 := Lib.hid hy2
  have Hfb := Lib.hid hfb
  have Hfb2 := Lib.hid hfb2
  have hN0 := Lib.hid hN
  have HL := Lib.hid hL
  have Hge := Lib.hid hge
  clear g0 g1 g2 g3 hN hL hge h hl ok hR0 hlen hA hAl hW hr hy2 hfb hfb2 hAj hj hj2
  go_enter Tryz.func70, Tryz.ntmps70
  go_wp2
  refine startTP (S := fun a => a.block = w.heap.size ∨ a.block = w.heap.size + 1) (T := []) (fun X => Mv S w S X ∧ (X.heap[w.heap.size]? = some (.cells #[dv, wv, noteV b] 127) ∧ ¬ S w.heap.size) ∧ (X.heap[w.heap.size + 1]? = some (trB t A c) ∧ ¬ S (w.heap.size + 1)) ∧ (hostA D W b x).holds S X) 5 (by kernel_rfl) rfl (l := #[false, false, false, false, false]) rfl
      ⟨X0.out.1.drew, X0.out.2.1, X0.out.2.2.1, Asr.drew X0.out.2.2.2⟩ ?_
  clear X0
  rintro x0 ⟨M, b0, b1, hH⟩
  obtain ⟨c0, c1, c2, c3, c4, c5, c6⟩ := tr_cells b1.1
  have d0 := block_at b0.1 (i := 0) (v := dv) rfl
  have d1 := block_at b0.1 (i := 1) (v := wv) rfl
  have d2 := block_at b0.1 (i := 2) (v := noteV b) rfl
  replace M := Lib.hid M
  replace b0 := Lib.hid b0
  replace b1 := Lib.hid b1
  replace hH := Lib.hid hH
  ((first | (refine takeT 0 (v := ?_) rfl (by decide +kernel) (by decide +kernel) (by decide +kernel) (fun _ _ _ h => h) (by decide +kernel) (Or.inl ⟨by rfl, ?_⟩) ?_; rotate_left 1; (focus (intro W hW; have hcW := hW.at; (try dsimp only at hcW); go_simp; first | done | with_reducible rfl)); try simp only [Act.put, List.setIfInBounds_toArray, List.set_cons_zero, List.set_cons_succ]) | (refine takeW 0 (v := ?_) rfl (by decide +kernel) (by decide +kernel) (by decide +kernel) (fun _ _ _ h => h) (Or.inl ⟨by rfl, ?_⟩) ?_; rotate_left 1; (focus (intro W hW; go_simp; first | done | with_reducible rfl)); try simp only [Act.put, List.setIfInBounds_toArray, List.set_cons_zero, List.set_cons_succ]) | (refine takeW 0 rfl (by decide +kernel) (by decide +kernel) (by decide +kernel) (fun _ _ _ h => h) (Or.inr ⟨by rfl, rfl⟩) ?_; try simp only [Act.put, List.setIfInBounds_toArray, List.set_cons_zero, List.set_cons_succ]) | skip); (first | (refine takeT 1 (v := ?_) rfl (by decide +kernel) (by decide +kernel) (by decide +kernel) (fun _ _ _ h => h) (by decide +kernel) (Or.inl ⟨by rfl, ?_⟩) ?_; rotate_left 1; (focus (intro W hW; have hcW := hW.at; (try dsimp only at hcW); go_simp; first | done | with_reducible rfl)); try simp only [Act.put, List.setIfInBounds_toArray, List.set_cons_zero, List.set_cons_succ]) | (refine takeW 1 (v := ?_) rfl (by decide +kernel) (by decide +kernel) (by decide +kernel) (fun _ _ _ h => h) (Or.inl ⟨by rfl, ?_⟩) ?_; rotate_left 1; (focus (intro W hW; go_simp; first | done | with_reducible rfl)); try simp only [Act.put, List.setIfInBounds_toArray, List.set_cons_zero, List.set_cons_succ]) | (refine takeW 1 rfl (by decide +kernel) (by decide +kernel) (by decide +kernel) (fun _ _ _ h => h) (Or.inr ⟨by rfl, rfl⟩) ?_; try simp only [Act.put, List.setIfInBounds_toArray, List.set_cons_zero, List.set_cons_succ]) | skip))
  clear d0 d1 d2 c0 c1 c2 c3 c4 c5 c6
  refine stepT 2 rfl (by decide +kernel) (by rfl) ?_
  intro K hK
  go_simp
  refine (KT.out x0).mono ?_
  rintro e x1 ⟨rfl, bb⟩
  have hm := Mv.of_below S bb
  refine hK _ _ (.inr (smOf hm b0.out b1.out)) ?_
  replace hH := Lib.hid (Asr.below hH.out bb (Nat.le_trans hN0.out M.out.size))
  replace M := Lib.hid (M.out.trans hm)
  replace b0 := Lib.hid (hm.box b0.out)
  replace b1 := Lib.hid (hm.box b1.out)
  clear hK K hm bb
  try simp only [Act.put, List.setIfInBounds_toArray, List.set_cons_zero, List.set_cons_succ]
  refine stepT 3 rfl (by decide +kernel) (by rfl) ?_
  intro K hK
  go_simp
  refine (KS.out x1 hH.out (Nat.le_trans hN0.out M.out.size)).mono ?_
  rintro e y ⟨rfl, S1, hH1, hm⟩
  refine hK _ _ (.inr (smOf hm b0.out b1.out)) ?_
  replace hH := Lib.hid hH1
  replace M := Lib.hid (M.out.trans hm)
  replace b0 := Lib.hid (hm.box b0.out)
  replace b1 := Lib.hid (hm.box b1.out)
  clear hK K hm hH1
  try simp only [Act.put, List.setIfInBounds_toArray, List.set_cons_zero, List.set_cons_succ]
  ((first | (refine takeT 4 (v := ?_) rfl (by decide +kernel) (by decide +kernel) (by decide +kernel) (fun _ _ _ h => h) (by decide +kernel) (Or.inl ⟨by rfl, ?_⟩) ?_; rotate_left 1; (focus (intro W hW; have hcW := hW.at; (try dsimp only at hcW); go_simp; first | done | with_reducible rfl)); try simp only [Act.put, List.setIfInBounds_toArray, List.set_cons_zero, List.set_cons_succ]) | (refine takeW 4 (v := ?_) rfl (by decide +kernel) (by decide +kernel) (by decide +kernel) (fun _ _ _ h => h) (Or.inl ⟨by rfl, ?_⟩) ?_; rotate_left 1; (focus (intro W hW; go_simp; first | done | with_reducible rfl)); try simp only [Act.put, List.setIfInBounds_toArray, List.set_cons_zero, List.set_cons_succ]) | (refine takeW 4 rfl (by decide +kernel) (by decide +kernel) (by decide +kernel) (fun _ _ _ h => h) (Or.inr ⟨by rfl, rfl⟩) ?_; try simp only [Act.put, List.setIfInBounds_toArray, List.set_cons_zero, List.set_cons_succ]) | skip))
  refine doneT (by kernel_rfl) ?_
  cases fb
  · have hy : y2 = (x.1, (next x.2.1).1, x.2.2 ++ [(tokP t, true, (next x.2.1).2)]) := by
      rw [← Hy2.out, if_neg (fun h => by have := Hfb.out; rw [h] at this; cases this)]
    rw [← hy] at hH
    clear hy KA
    go_wp2
    refine region_inv (fun a₀ act z => ∃ g6 : Nat, act = { tmps := (((((((a₀.tmps.setIfInBounds 17 (.pointer (some ⟨w.heap.size + 1, 3, none⟩))).setIfInBounds 18 (.bool t.tog)).setIfInBounds 19 (.int .u8 (dpid t.tog : Int))).setIfInBounds 20 (.pointer (some ⟨w.heap.size + 1, 6, none⟩))).setIfInBounds 21 (.slice A t.data.length c)).setIfInBounds 22 (pkV (datP t) A c)).setIfInBounds 6 (.pointer (some ⟨g6, 0, none⟩))), defers := [] } ∧
      z.heap[g6]? = some (pkB (datP t) A c) ∧ ¬ S1 g6 ∧ w.heap.size + 1 + 1 ≤ g6 ∧ Mv S w S1 z ∧ (hostA D W b y2).holds S1 z ∧ (z.heap[w.heap.size]? = some (.cells #[dv, wv, noteV b] 127) ∧ ¬ S1 w.heap.size) ∧ (z.heap[w.heap.size + 1]? = some (trB t A c) ∧ ¬ S1 (w.heap.size + 1))) ?_ ?_
    · refine startTP (S := fun a => a.block = w.heap.size ∨ a.block = w.heap.size + 1) (T := [7]) (fun X => Mv S w S1 X ∧ (X.heap[w.heap.size]? = some (.cells #[dv, wv, noteV b] 127) ∧ ¬ S1 w.heap.size) ∧ (X.heap[w.heap.size + 1]? = some (trB t A c) ∧ ¬ S1 (w.heap.size + 1)) ∧ (hostA D W b y2).holds S1 X) 8 (by kernel_rfl) rfl (l := #[false, false, false, false, false, false, false, false]) rfl
        ⟨M.out.drew, b0.out, b1.out, Asr.drew hH.out⟩ ?_
      clear M b0 b1 hH
      rintro x5 ⟨M, b0, b1, hH⟩
      obtain ⟨c0, c1, c2, c3, c4, c5, c6⟩ := tr_cells b1.1
      replace M := Lib.hid M
      replace b0 := Lib.hid b0
      replace b1 := Lib.hid b1
      replace hH := Lib.hid hH
      ((first | (refine takeT 0 (v := ?_) rfl (by decide +kernel) (by decide +kernel) (by decide +kernel) (fun _ _ _ h => h) (by decide +kernel) (Or.inl ⟨by rfl, ?_⟩) ?_; rotate_left 1; (focus (intro W hW; have hcW := hW.at; (try dsimp only at hcW); go_simp; first | done | with_reducible rfl)); try simp only [Act.put, List.setIfInBounds_toArray, List.set_cons_zero, List.set_cons_succ]) | (refine takeW 0 (v := ?_) rfl (by decide +kernel) (by decide +kernel) (by decide +kernel) (fun _ _ _ h => h) (Or.inl ⟨by rfl, ?_⟩) ?_; rotate_left 1; (focus (intro W hW; go_simp; first | done | with_reducible rfl)); try simp only [Act.put, List.setIfInBounds_toArray, List.set_cons_zero, List.set_cons_succ]) | (refine takeW 0 rfl (by decide +kernel) (by decide +kernel) (by decide +kernel) (fun _ _ _ h => h) (Or.inr ⟨by rfl, rfl⟩) ?_; try simp only [Act.put, List.setIfInBounds_toArray, List.set_cons_zero, List.set_cons_succ]) | skip); (first | (refine takeT 1 (v := ?_) rfl (by decide +kernel) (by decide +kernel) (by decide +kernel) (fun _ _ _ h => h) (by decide +kernel) (Or.inl ⟨by rfl, ?_⟩) ?_; rotate_left 1; (focus (intro W hW; have hcW := hW.at; (try dsimp only at hcW); go_simp; first | done | with_reducible rfl)); try simp only [Act.put, List.setIfInBounds_toArray, List.set_cons_zero, List.set_cons_succ]) | (refine takeW 1 (v := ?_) rfl (by decide +kernel) (by decide +kernel) (by decide +kernel) (fun _ _ _ h => h) (Or.inl ⟨by rfl, ?_⟩) ?_; rotate_left 1; (focus (intro W hW; go_simp; first | done | with_reducible rfl)); try simp only [Act.put, List.setIfInBounds_toArray, List.set_cons_zero, List.set_cons_succ]) | (refine takeW 1 rfl (by decide +kernel) (by decide +kernel) (by decide +kernel) (fun _ _ _ h => h) (Or.inr ⟨by rfl, rfl⟩) ?_; try simp only [Act.put, List.setIfInBounds_toArray, List.set_cons_zero, List.set_cons_succ]) | skip))
      ((first | (refine takeT 3 (v := ?_) rfl (by decide +kernel) (by decide +kernel) (by decide +kernel) (fun _ _ _ h => h) (by decide +kernel) (Or.inl ⟨by rfl, ?_⟩) ?_; rotate_left 1; (focus (intro W hW; have hcW := hW.at; (try dsimp only at hcW); go_simp; first | done | with_reducible rfl)); try simp only [Act.put, List.setIfInBounds_toArray, List.set_cons_zero, List.set_cons_succ]) | (refine takeW 3 (v := ?_) rfl (by decide +kernel) (by decide +kernel) (by decide +kernel) (fun _ _ _ h => h) (Or.inl ⟨by rfl, ?_⟩) ?_; rotate_left 1; (focus (intro W hW; go_simp; first | done | with_reducible rfl)); try simp only [Act.put, List.setIfInBounds_toArray, List.set_cons_zero, List.set_cons_succ]) | (refine takeW 3 rfl (by decide +kernel) (by decide +kernel) (by decide +kernel) (fun _ _ _ h => h) (Or.inr ⟨by rfl, rfl⟩) ?_; try simp only [Act.put, List.setIfInBounds_toArray, List.set_cons_zero, List.set_cons_succ]) | skip); (first | (refine takeT 4 (v := ?_) rfl (by decide +kernel) (by decide +kernel) (by decide +kernel) (fun _ _ _ h => h) (by decide +kernel) (Or.inl ⟨by rfl, ?_⟩) ?_; rotate_left 1; (focus (intro W hW; have hcW := hW.at; (try dsimp only at hcW); go_simp; first | done | with_reducible rfl)); try simp only [Act.put, List.setIfInBounds_toArray, List.set_cons_zero, List.set_cons_succ]) | (refine takeW 4 (v := ?_) rfl (by decide +kernel) (by decide +kernel) (by decide +kernel) (fun _ _ _ h => h) (Or.inl ⟨by rfl, ?_⟩) ?_; rotate_left 1; (focus (intro W hW; go_simp; first | done | with_reducible rfl)); try simp only [Act.put, List.setIfInBounds_toArray, List.set_cons_zero, List.set_cons_succ]) | (refine takeW 4 rfl (by decide +kernel) (by decide +kernel) (by decide +kernel) (fun _ _ _ h => h) (Or.inr ⟨by rfl, rfl⟩) ?_; try simp only [Act.put, List.setIfInBounds_toArray, List.set_cons_zero, List.set_cons_succ]) | skip))
      clear c0 c1 c2 c3 c4 c5 c6
      refine stepTA [2, 6] (by decide +kernel) (by decide) ?_
      intro i hi
      rcases (by simpa using hi : i = 2 ∨ i = 6) with rfl | rfl
      · clear hi
        refine ⟨_, rfl, by rfl, ?_⟩
        intro K hK
        go_simp
        refine (dpid_any x5 t.tog).mono ?_
        rintro e x6 ⟨rfl, rfl⟩
        refine hK _ _ (.inr (Sm.refl _ _)) ?_
        clear hK K
        try simp only [Act.put, List.setIfInBounds_toArray, List.set_cons_zero, List.set_cons_succ]
        ((first | (refine takeT 5 (v := ?_) rfl (by decide +kernel) (by decide +kernel) (by decide +kernel) (fun _ _ _ h => h) (by decide +kernel) (Or.inl ⟨by rfl, ?_⟩) ?_; rotate_left 1; (focus (intro W hW; have hcW := hW.at; (try dsimp only at hcW); go_simp; first | done | with_reducible rfl)); try simp only [Act.put, List.setIfInBounds_toArray, List.set_cons_zero, List.set_cons_succ]) | (refine takeW 5 (v := ?_) rfl (by decide +kernel) (by decide +kernel) (by decide +kernel) (fun _ _ _ h => h) (Or.inl ⟨by rfl, ?_⟩) ?_; rotate_left 1; (focus (intro W hW; go_simp; first | done | with_reducible rfl)); try simp only [Act.put, List.setIfInBounds_toArray, List.set_cons_zero, List.set_cons_succ]) | (refine takeW 5 rfl (by decide +kernel) (by decide +kernel) (by decide +kernel) (fun _ _ _ h => h) (Or.inr ⟨by rfl, rfl⟩) ?_; try simp only [Act.put, List.setIfInBounds_toArray, List.set_cons_zero, List.set_cons_succ]) | skip))
        refine stepT 6 rfl (by decide +kernel) (by rfl) ?_
        intro K hK
        go_simp
        have lb6 := block_lt b1.out.1
        have nS : ¬ S1 x5.heap.size := fun hf => Nat.lt_irrefl _ ((hostA D W b y2).ge hH.out _ hf).2
        have bb := (Below.refl x5.heap.size x5).alloc (Nat.le_refl _) pkZ
        have hm := Mv.of_below S1 bb
        have sm := smOf hm b0.out b1.out
        replace hH := Lib.hid (Asr.below hH.out bb (Nat.le_trans hN0.out M.out.size))
        replace M := Lib.hid (M.out.trans hm)
        replace b0 := Lib.hid (hm.box b0.out)
        replace b1 := Lib.hid (hm.box b1.out)
        have b6 := Lib.hid (show (x5.alloc pkZ).heap[x5.heap.size]? = some pkZ ∧ ¬ S1 x5.heap.size from ⟨alloc1 x5 pkZ, nS⟩)
        refine hK _ _ (.inr sm) ?_
        clear hK K hm sm bb nS
        try simp only [Act.put, List.setIfInBounds_toArray, List.set_cons_zero, List.set_cons_succ]
        generalize x5.alloc pkZ = x7 at M b0 b1 hH b6 ⊢
        generalize x5.heap.size = g6 at b6 lb6 ⊢
        refine stepT 7 rfl (by decide +kernel) (by rfl) ?_
        intro K hK
        refine wp_storeB flatPk (.tmp 6) (.tmp 22) rfl g6 rfl _ rfl b6.out.1 rfl rfl rfl ?_
        intro z k6 hg6 hs6
        have hge6 : w.heap.size + 1 + 1 ≤ g6 := lb6
        have hN6 := hN0.out
        have hN7 := Nat.le_trans hN0.out M.out.size
        refine hK _ _ (.inl (by decide)) ?_
        clear hK K
        try simp only [Act.put, List.setIfInBounds_toArray, List.set_cons_zero, List.set_cons_succ]
        refine doneT (by kernel_rfl) ?_
        exact ⟨g6, rfl, k6, b6.out.2, hge6, M.out.grown_new hg6 (by omega), Asr.grown hH.out hg6 b6.out.2 (by omega) hN7, ⟨grown_block hg6 b0.out.1 (fun e => by injection e; omega), b0.out.2⟩, ⟨grown_block hg6 b1.out.1 (fun e => by injection e; omega), b1.out.2⟩⟩
      · clear hi
        refine ⟨_, rfl, by rfl, ?_⟩
        intro K hK
        go_simp
        have lb6 := block_lt b1.out.1
        have nS : ¬ S1 x5.heap.size := fun hf => Nat.lt_irrefl _ ((hostA D W b y2).ge hH.out _ hf).2
        have bb := (Below.refl x5.heap.size x5).alloc (Nat.le_refl _) pkZ
        have hm := Mv.of_below S1 bb
        have sm := smOf hm b0.out b1.out
        replace hH := Lib.hid (Asr.below hH.out bb (Nat.le_trans hN0.out M.out.size))
        replace M := Lib.hid (M.out.trans hm)
        replace b0 := Lib.hid (hm.box b0.out)
        replace b1 := Lib.hid (hm.box b1.out)
        have b6 := Lib.hid (show (x5.alloc pkZ).heap[x5.heap.size]? = some pkZ ∧ ¬ S1 x5.heap.size from ⟨alloc1 x5 pkZ, nS⟩)
        refine hK _ _ (.inr sm) ?_
        clear hK K hm sm bb nS
        try simp only [Act.put, List.setIfInBounds_toArray, List.set_cons_zero, List.set_cons_succ]
        generalize x5.alloc pkZ = x7 at M b0 b1 hH b6 ⊢
        generalize x5.heap.size = g6 at b6 lb6 ⊢
        refine stepT 2 rfl (by decide +kernel) (by rfl) ?_
        intro K hK
        go_simp
        refine (dpid_any x7 t.tog).mono ?_
        rintro e x6 ⟨rfl, rfl⟩
        refine hK _ _ (.inr (Sm.refl _ _)) ?_
        clear hK K
        try simp only [Act.put, List.setIfInBounds_toArray, List.set_cons_zero, List.set_cons_succ]
        ((first | (refine takeT 5 (v := ?_) rfl (by decide +kernel) (by decide +kernel) (by decide +kernel) (fun _ _ _ h => h) (by decide +kernel) (Or.inl ⟨by rfl, ?_⟩) ?_; rotate_left 1; (focus (intro W hW; have hcW := hW.at; (try dsimp only at hcW); go_simp; first | done | with_reducible rfl)); try simp only [Act.put, List.setIfInBounds_toArray, List.set_cons_zero, List.set_cons_succ]) | (refine takeW 5 (v := ?_) rfl (by decide +kernel) (by decide +kernel) (by decide +kernel) (fun _ _ _ h => h) (Or.inl ⟨by rfl, ?_⟩) ?_; rotate_left 1; (focus (intro W hW; go_simp; first | done | with_reducible rfl)); try simp only [Act.put, List.setIfInBounds_toArray, List.set_cons_zero, List.set_cons_succ]) | (refine takeW 5 rfl (by decide +kernel) (by decide +kernel) (by decide +kernel) (fun _ _ _ h => h) (Or.inr ⟨by rfl, rfl⟩) ?_; try simp only [Act.put, List.setIfInBounds_toArray, List.set_cons_zero, List.set_cons_succ]) | skip))
        refine stepT 7 rfl (by decide +kernel) (by rfl) ?_
        intro K hK
        refine wp_storeB flatPk (.tmp 6) (.tmp 22) rfl g6 rfl _ rfl b6.out.1 rfl rfl rfl ?_
        intro z k6 hg6 hs6
        have hge6 : w.heap.size + 1 + 1 ≤ g6 := lb6
        have hN6 := hN0.out
        have hN7 := Nat.le_trans hN0.out M.out.size
        refine hK _ _ (.inl (by decide)) ?_
        clear hK K
        try simp only [Act.put, List.setIfInBounds_toArray, List.set_cons_zero, List.set_cons_succ]
        refine doneT (by kernel_rfl) ?_
        exact ⟨g6, rfl, k6, b6.out.2, hge6, M.out.grown_new hg6 (by omega), Asr.grown hH.out hg6 b6.out.2 (by omega) hN7, ⟨grown_block hg6 b0.out.1 (fun e => by injection e; omega), b0.out.2⟩, ⟨grown_block hg6 b1.out.1 (fun e => by injection e; omega), b1.out.2⟩⟩
    clear M b0 b1 hH
    rintro act z ⟨g6, rfl, k6, n6, hge6, M, hH, b0, b1⟩
    try simp only [Act.put, List.setIfInBounds_toArray, List.set_cons_zero, List.set_cons_succ]
    have hNz := Nat.le_trans hN0.out M.size
    have Hr6 := Lib.hid (Hr.out.mvlt M)
    have k7 := Lib.hid (alloc1 z pkZ)
    have hbz := Lib.hid ((Below.refl z.heap.size z).alloc (Nat.le_refl _) pkZ)
    have n7 := Lib.hid (show ¬ S1 z.heap.size from fun hf => Nat.lt_irrefl _ ((hostA D W b y2).ge hH _ hf).2)
    have K6 := Lib.hid (show _ ∧ _ from ⟨k6, n6⟩)
    have M6 := Lib.hid M
    have H6 := Lib.hid hH
    have B06 := Lib.hid b0
    have B16 := Lib.hid b1
    have Hge6 := Lib.hid hge6
    have HNz := Lib.hid hNz
    clear k6 n6 M hH b0 b1 hge6 hNz
    go_wp2_with (first | (refine wpl_storeB flatPk rfl (.tmp 7) (.tmp 23) rfl _ rfl _ rfl k7.out rfl rfl rfl ?_; intro z2 k72 hg7 hs7; have B02 := Lib.hid (grown_block hg7 ((hbz.out.block _ (block_lt B06.out.1)).trans B06.out.1) (fun e => by injection e; have := block_lt B06.out.1; omega)); have B12 := Lib.hid (grown_block hg7 ((hbz.out.block _ (block_lt B16.out.1)).trans B16.out.1) (fun e => by injection e; have := block_lt B16.out.1; omega)); have K62 := Lib.hid (grown_block hg7 ((hbz.out.block _ (block_lt K6.out.1)).trans K6.out.1) (fun e => by injection e; have := block_lt K6.out.1; omega)); replace k72 := Lib.hid k72; replace hg7 := Lib.hid hg7; replace hs7 := Lib.hid hs7) | (refine wpl_loadB flatHost rfl (.tmp 2) rfl _ rfl B02.out rfl ?_) | (refine wpl_loadB flatPk rfl (.tmp 6) rfl _ rfl K62.out rfl ?_))
    have hbelow : Below z.heap.size z z2 := below_grown hbz.out hg7.out hbz.out.size (Nat.le_refl _)
    have hm2 := Mv.of_below S1 hbelow
    have hN2 := Nat.le_trans HNz.out hbelow.size
    have hH2 := Asr.below H6.out hbelow HNz.out
    refine (KS2.out z2 S1 hH2 (Hr6.out.mv hm2) hN2).mono ?_
    rintro e z3 ⟨rfl, S3, hH3, hm3⟩
    have M3 := Lib.hid ((M6.out.trans hm2).trans hm3)
    have hb7 := hm3.box ⟨k72.out, n7.out⟩
    have hb0 := hm3.box ⟨B02.out, B06.out.2⟩
    have hb1 := hm3.box ⟨B12.out, B16.out.2⟩
    have hb6 := hm3.box ⟨K62.out, K6.out.2⟩
    have K73 := Lib.hid hb7
    have B03 := Lib.hid hb0
    have B13 := Lib.hid hb1
    have K63 := Lib.hid hb6
    have H3 := Lib.hid hH3
    have HN3 := Lib.hid (Nat.le_trans hN2 hm3.size)
    have e4 := block_at hb1.1 (i := 4) (v := .bool t.iso) rfl
    have hz7 := block_lt B06.out.1
    have Hz7 := Lib.hid hz7
    clear hbelow hm2 hN2 hH2 hH3 hm3 hb7 hb0 hb1 hb6 hz7
    cases fb2
    · cases hiso : t.iso
      · rw [hiso] at HR0 e4
        have HR1 : (x', res) = ((y2.1, (next y2.2.1).1, y2.2.2 ++ [(datP t, true, (next y2.2.1).2)]), hsR t.what t.iso zeroP.pid) := by rw [← HR0.out, show dataR next ask false y2 t = ((y2.1, (next y2.2.1).1, y2.2.2 ++ [(datP t, true, (next y2.2.1).2)]), zeroP, false) from by unfold dataR; rw [if_neg (fun h => by cases h.2)], if_neg (by simp), hiso]
        have HR2 := Lib.hid HR1
        clear HR1 hiso
        have i0 := block_at K73.out.1 (i := 0) (v := .int .u8 (zeroP.pid : Int)) rfl
        have KH := Lib.hid fun X => hand_any X t A c zeroP.pid
        go_wp2_with (refine wpl_loadB flatTry rfl (.tmp 3) rfl _ rfl B13.out.1 rfl ?_)
        refine (KH.out _).mono ?_
        rintro e zz ⟨rfl, bb⟩
        obtain ⟨rfl, rfl⟩ := pair_eq HR2.out
        have Hf := Lib.hid (And.intro (Asr.below H3.out bb HN3.out) (M3.out.trans (Mv.of_below _ bb)))
        clear bb i0
        go_wp2
        go_ret
        exact ⟨rfl, _, Hf.out.1, Hf.out.2⟩
      · rw [hiso] at HR0 e4
        clear hiso
        have HR1 : (x', res) = ((y2.1, (next y2.2.1).1, y2.2.2 ++ [(datP t, true, (next y2.2.1).2)]), 1) := by rw [← HR0.out, show dataR next ask false y2 t = ((y2.1, (next y2.2.1).1, y2.2.2 ++ [(datP t, true, (next y2.2.1).2)]), zeroP, false) from by unfold dataR; rw [if_neg (fun h => by cases h.2)], if_pos rfl]
        obtain ⟨rfl, rfl⟩ := pair_eq HR1
        clear HR1
        go_wp2
        go_ret
        exact ⟨rfl, _, H3.out, M3.out⟩
    · cases hiso : t.iso
      · rw [hiso] at HR0 e4
        have HR1 : (x', res) = ((y2.1, (next y2.2.1).1, y2.2.2 ++ [(datP t, true, (next y2.2.1).2)]), hsR t.what t.iso zeroP.pid) := by rw [← HR0.out, show dataR next ask false y2 t = ((y2.1, (next y2.2.1).1, y2.2.2 ++ [(datP t, true, (next y2.2.1).2)]), zeroP, false) from by unfold dataR; rw [if_neg (fun h => by cases h.2)], if_neg (by simp), hiso]
        have HR2 := Lib.hid HR1
        clear HR1 hiso
        have i0 := block_at K73.out.1 (i := 0) (v := .int .u8 (zeroP.pid : Int)) rfl
        have KH := Lib.hid fun X => hand_any X t A c zeroP.pid
        go_wp2_with (refine wpl_loadB flatTry rfl (.tmp 3) rfl _ rfl B13.out.1 rfl ?_)
        refine (KH.out _).mono ?_
        rintro e zz ⟨rfl, bb⟩
        obtain ⟨rfl, rfl⟩ := pair_eq HR2.out
        have Hf := Lib.hid (And.intro (Asr.below H3.out bb HN3.out) (M3.out.trans (Mv.of_below _ bb)))
        clear bb i0
        go_wp2
        go_ret
        exact ⟨rfl, _, Hf.out.1, Hf.out.2⟩
      · rw [hiso] at HR0 e4
        clear hiso
        have HR1 : (x', res) = ((y2.1, (next y2.2.1).1, y2.2.2 ++ [(datP t, true, (next y2.2.1).2)]), 1) := by rw [← HR0.out, show dataR next ask false y2 t = ((y2.1, (next y2.2.1).1, y2.2.2 ++ [(datP t, true, (next y2.2.1).2)]), zeroP, false) from by unfold dataR; rw [if_neg (fun h => by cases h.2)], if_pos rfl]
        obtain ⟨rfl, rfl⟩ := pair_eq HR1
        clear HR1
        go_wp2
        go_ret
        exact ⟨rfl, _, H3.out, M3.out⟩
  · have hy : y2 = (ask x.1 (next x.2.1).1 (x.2.2 ++ [(tokP t, true, (next x.2.1).2)]) (tokP t)).1 := by
      rw [← Hy2.out, if_pos (by have := Hfb.out; simpa using this)]
    rw [← hy] at KA
    clear hy
    go_wp2
    refine startTP (S := fun a => a.block = w.heap.size ∨ a.block = w.heap.size + 1) (T := []) (fun X => Mv S w S1 X ∧ (X.heap[w.heap.size]? = some (.cells #[dv, wv, noteV b] 127) ∧ ¬ S1 w.heap.size) ∧ (X.heap[w.heap.size + 1]? = some (trB t A c) ∧ ¬ S1 (w.heap.size + 1)) ∧ (hostA D W b (x.1, (next x.2.1).1, x.2.2 ++ [(tokP t, true, (next x.2.1).2)])).holds S1 X) 4 (by kernel_rfl) rfl (l := #[false, false, false, false]) rfl
      ⟨M.out.drew, b0.out, b1.out, Asr.drew hH.out⟩ ?_
    clear M b0 b1 hH
    rintro x2 ⟨M, b0, b1, hH⟩
    obtain ⟨c0, c1, c2, c3, c4, c5, c6⟩ := tr_cells b1.1
    have d0 := block_at b0.1 (i := 0) (v := dv) rfl
    have d1 := block_at b0.1 (i := 1) (v := wv) rfl
    have d2 := block_at b0.1 (i := 2) (v := noteV b) rfl
    replace M := Lib.hid M
    replace b0 := Lib.hid b0
    replace b1 := Lib.hid b1
    replace hH := Lib.hid hH
    ((first | (refine takeT 0 (v := ?_) rfl (by decide +kernel) (by decide +kernel) (by decide +kernel) (fun _ _ _ h => h) (by decide +kernel) (Or.inl ⟨by rfl, ?_⟩) ?_; rotate_left 1; (focus (intro W hW; have hcW := hW.at; (try dsimp only at hcW); go_simp; first | done | with_reducible rfl)); try simp only [Act.put, List.setIfInBounds_toArray, List.set_cons_zero, List.set_cons_succ]) | (refine takeW 0 (v := ?_) rfl (by decide +kernel) (by decide +kernel) (by decide +kernel) (fun _ _ _ h => h) (Or.inl ⟨by rfl, ?_⟩) ?_; rotate_left 1; (focus (intro W hW; go_simp; first | done | with_reducible rfl)); try simp only [Act.put, List.setIfInBounds_toArray, List.set_cons_zero, List.set_cons_succ]) | (refine takeW 0 rfl (by decide +kernel) (by decide +kernel) (by decide +kernel) (fun _ _ _ h => h) (Or.inr ⟨by rfl, rfl⟩) ?_; try simp only [Act.put, List.setIfInBounds_toArray, List.set_cons_zero, List.set_cons_succ]) | skip); (first | (refine takeT 1 (v := ?_) rfl (by decide +kernel) (by decide +kernel) (by decide +kernel) (fun _ _ _ h => h) (by decide +kernel) (Or.inl ⟨by rfl, ?_⟩) ?_; rotate_left 1; (focus (intro W hW; have hcW := hW.at; (try dsimp only at hcW); go_simp; first | done | with_reducible rfl)); try simp only [Act.put, List.setIfInBounds_toArray, List.set_cons_zero, List.set_cons_succ]) | (refine takeW 1 (v := ?_) rfl (by decide +kernel) (by decide +kernel) (by decide +kernel) (fun _ _ _ h => h) (Or.inl ⟨by rfl, ?_⟩) ?_; rotate_left 1; (focus (intro W hW; go_simp; first | done | with_reducible rfl)); try simp only [Act.put, List.setIfInBounds_toArray, List.set_cons_zero, List.set_cons_succ]) | (refine takeW 1 rfl (by decide +kernel) (by decide +kernel) (by decide +kernel) (fun _ _ _ h => h) (Or.inr ⟨by rfl, rfl⟩) ?_; try simp only [Act.put, List.setIfInBounds_toArray, List.set_cons_zero, List.set_cons_succ]) | skip))
    clear d0 d1 d2 c0 c1 c2 c3 c4 c5 c6
    refine stepT 2 rfl (by decide +kernel) (by rfl) ?_
    intro K hK
    go_simp
    refine (KT.out x2).mono ?_
    rintro e x3 ⟨rfl, bb⟩
    have hm := Mv.of_below S1 bb
    refine hK _ _ (.inr (smOf hm b0.out b1.out)) ?_
    replace hH := Lib.hid (Asr.below hH.out bb (Nat.le_trans hN0.out M.out.size))
    replace M := Lib.hid (M.out.trans hm)
    replace b0 := Lib.hid (hm.box b0.out)
    replace b1 := Lib.hid (hm.box b1.out)
    clear hK K hm bb
    try simp only [Act.put, List.setIfInBounds_toArray, List.set_cons_zero, List.set_cons_succ]
    refine stepT 3 rfl (by decide +kernel) (by rfl) ?_
    intro K hK
    go_simp
    refine (KA.out x3 S1 hH.out (Nat.le_trans hN0.out M.out.size) (HL.out.belowN (M.out.belowN (fun k hk => (Hge.out k hk).1) hN0.out) hLN)).mono ?_
    rintro e y9 ⟨A9, c9, S9, rfl, _, hH1, hm⟩
    refine hK _ _ (.inr (smOf hm b0.out b1.out)) ?_
    replace hH := Lib.hid hH1
    replace M := Lib.hid (M.out.trans hm)
    replace b0 := Lib.hid (hm.box b0.out)
    replace b1 := Lib.hid (hm.box b1.out)
    clear hK K hm hH1
    try simp only [Act.put, List.setIfInBounds_toArray, List.set_cons_zero, List.set_cons_succ]
    refine doneT (by kernel_rfl) ?_
    go_wp2
    refine region_inv (fun a₀ act z => ∃ g6 : Nat, act = { tmps := (((((((a₀.tmps.setIfInBounds 17 (.pointer (some ⟨w.heap.size + 1, 3, none⟩))).setIfInBounds 18 (.bool t.tog)).setIfInBounds 19 (.int .u8 (dpid t.tog : Int))).setIfInBounds 20 (.pointer (some ⟨w.heap.size + 1, 6, none⟩))).setIfInBounds 21 (.slice A t.data.length c)).setIfInBounds 22 (pkV (datP t) A c)).setIfInBounds 6 (.pointer (some ⟨g6, 0, none⟩))), defers := [] } ∧
      z.heap[g6]? = some (pkB (datP t) A c) ∧ ¬ S9 g6 ∧ w.heap.size + 1 + 1 ≤ g6 ∧ Mv S w S9 z ∧ (hostA D W b y2).holds S9 z ∧ (z.heap[w.heap.size]? = some (.cells #[dv, wv, noteV b] 127) ∧ ¬ S9 w.heap.size) ∧ (z.heap[w.heap.size + 1]? = some (trB t A c) ∧ ¬ S9 (w.heap.size + 1))) ?_ ?_
    · refine startTP (S := fun a => a.block = w.heap.size ∨ a.block = w.heap.size + 1) (T := [7]) (fun X => Mv S w S9 X ∧ (X.heap[w.heap.size]? = some (.cells #[dv, wv, noteV b] 127) ∧ ¬ S9 w.heap.size) ∧ (X.heap[w.heap.size + 1]? = some (trB t A c) ∧ ¬ S9 (w.heap.size + 1)) ∧ (hostA D W b y2).holds S9 X) 8 (by kernel_rfl) rfl (l := #[false, false, false, false, false, false, false, false]) rfl
        ⟨M.out.drew, b0.out, b1.out, Asr.drew hH.out⟩ ?_
      clear M b0 b1 hH
      rintro x5 ⟨M, b0, b1, hH⟩
      obtain ⟨c0, c1, c2, c3, c4, c5, c6⟩ := tr_cells b1.1
      replace M := Lib.hid M
      replace b0 := Lib.hid b0
      replace b1 := Lib.hid b1
      replace hH := Lib.hid hH
      ((first | (refine takeT 0 (v := ?_) rfl (by decide +kernel) (by decide +kernel) (by decide +kernel) (fun _ _ _ h => h) (by decide +kernel) (Or.inl ⟨by rfl, ?_⟩) ?_; rotate_left 1; (focus (intro W hW; have hcW := hW.at; (try dsimp only at hcW); go_simp; first | done | with_reducible rfl)); try simp only [Act.put, List.setIfInBounds_toArray, List.set_cons_zero, List.set_cons_succ]) | (refine takeW 0 (v := ?_) rfl (by decide +kernel) (by decide +kernel) (by decide +kernel) (fun _ _ _ h => h) (Or.inl ⟨by rfl, ?_⟩) ?_; rotate_left 1; (focus (intro W hW; go_simp; first | done | with_reducible rfl)); try simp only [Act.put, List.setIfInBounds_toArray, List.set_cons_zero, List.set_cons_succ]) | (refine takeW 0 rfl (by decide +kernel) (by decide +kernel) (by decide +kernel) (fun _ _ _ h => h) (Or.inr ⟨by rfl, rfl⟩) ?_; try simp only [Act.put, List.setIfInBounds_toArray, List.set_cons_zero, List.set_cons_succ]) | skip); (first | (refine takeT 1 (v := ?_) rfl (by decide +kernel) (by decide +kernel) (by decide +kernel) (fun _ _ _ h => h) (by decide +kernel) (Or.inl ⟨by rfl, ?_⟩) ?_; rotate_left 1; (focus (intro W hW; have hcW := hW.at; (try dsimp only at hcW); go_simp; first | done | with_reducible rfl)); try simp only [Act.put, List.setIfInBounds_toArray, List.set_cons_zero, List.set_cons_succ]) | (refine takeW 1 (v := ?_) rfl (by decide +kernel) (by decide +kernel) (by decide +kernel) (fun _ _ _ h => h) (Or.inl ⟨by rfl, ?_⟩) ?_; rotate_left 1; (focus (intro W hW; go_simp; first | done | with_reducible rfl)); try simp only [Act.put, List.setIfInBounds_toArray, List.set_cons_zero, List.set_cons_succ]) | (refine takeW 1 rfl (by decide +kernel) (by decide +kernel) (by decide +kernel) (fun _ _ _ h => h) (Or.inr ⟨by rfl, rfl⟩) ?_; try simp only [Act.put, List.setIfInBounds_toArray, List.set_cons_zero, List.set_cons_succ]) | skip))
      ((first | (refine takeT 3 (v := ?_) rfl (by decide +kernel) (by decide +kernel) (by decide +kernel) (fun _ _ _ h => h) (by decide +kernel) (Or.inl ⟨by rfl, ?_⟩) ?_; rotate_left 1; (focus (intro W hW; have hcW := hW.at; (try dsimp only at hcW); go_simp; first | done | with_reducible rfl)); try simp only [Act.put, List.setIfInBounds_toArray, List.set_cons_zero, List.set_cons_succ]) | (refine takeW 3 (v := ?_) rfl (by decide +kernel) (by decide +kernel) (by decide +kernel) (fun _ _ _ h => h) (Or.inl ⟨by rfl, ?_⟩) ?_; rotate_left 1; (focus (intro W hW; go_simp; first | done | with_reducible rfl)); try simp only [Act.put, List.setIfInBounds_toArray, List.set_cons_zero, List.set_cons_succ]) | (refine takeW 3 rfl (by decide +kernel) (by decide +kernel) (by decide +kernel) (fun _ _ _ h => h) (Or.inr ⟨by rfl, rfl⟩) ?_; try simp only [Act.put, List.setIfInBounds_toArray, List.set_cons_zero, List.set_cons_succ]) | skip); (first | (refine takeT 4 (v := ?_) rfl (by decide +kernel) (by decide +kernel) (by decide +kernel) (fun _ _ _ h => h) (by decide +kernel) (Or.inl ⟨by rfl, ?_⟩) ?_; rotate_left 1; (focus (intro W hW; have hcW := hW.at; (try dsimp only at hcW); go_simp; first | done | with_reducible rfl)); try simp only [Act.put, List.setIfInBounds_toArray, List.set_cons_zero, List.set_cons_succ]) | (refine takeW 4 (v := ?_) rfl (by decide +kernel) (by decide +kernel) (by decide +kernel) (fun _ _ _ h => h) (Or.inl ⟨by rfl, ?_⟩) ?_; rotate_left 1; (focus (intro W hW; go_simp; first | done | with_reducible rfl)); try simp only [Act.put, List.setIfInBounds_toArray, List.set_cons_zero, List.set_cons_succ]) | (refine takeW 4 rfl (by decide +kernel) (by decide +kernel) (by decide +kernel) (fun _ _ _ h => h) (Or.inr ⟨by rfl, rfl⟩) ?_; try simp only [Act.put, List.setIfInBounds_toArray, List.set_cons_zero, List.set_cons_succ]) | skip))
      clear c0 c1 c2 c3 c4 c5 c6
      refine stepTA [2, 6] (by decide +kernel) (by decide) ?_
      intro i hi
      rcases (by simpa using hi : i = 2 ∨ i = 6) with rfl | rfl
      · clear hi
        refine ⟨_, rfl, by rfl, ?_⟩
        intro K hK
        go_simp
        refine (dpid_any x5 t.tog).mono ?_
        rintro e x6 ⟨rfl, rfl⟩
        refine hK _ _ (.inr (Sm.refl _ _)) ?_
        clear hK K
        try simp only [Act.put, List.setIfInBounds_toArray, List.set_cons_zero, List.set_cons_succ]
        ((first | (refine takeT 5 (v := ?_) rfl (by decide +kernel) (by decide +kernel) (by decide +kernel) (fun _ _ _ h => h) (by decide +kernel) (Or.inl ⟨by rfl, ?_⟩) ?_; rotate_left 1; (focus (intro W hW; have hcW := hW.at; (try dsimp only at hcW); go_simp; first | done | with_reducible rfl)); try simp only [Act.put, List.setIfInBounds_toArray, List.set_cons_zero, List.set_cons_succ]) | (refine takeW 5 (v := ?_) rfl (by decide +kernel) (by decide +kernel) (by decide +kernel) (fun _ _ _ h => h) (Or.inl ⟨by rfl, ?_⟩) ?_; rotate_left 1; (focus (intro W hW; go_simp; first | done | with_reducible rfl)); try simp only [Act.put, List.setIfInBounds_toArray, List.set_cons_zero, List.set_cons_succ]) | (refine takeW 5 rfl (by decide +kernel) (by decide +kernel) (by decide +kernel) (fun _ _ _ h => h) (Or.inr ⟨by rfl, rfl⟩) ?_; try simp only [Act.put, List.setIfInBounds_toArray, List.set_cons_zero, List.set_cons_succ]) | skip))
        refine stepT 6 rfl (by decide +kernel) (by rfl) ?_
        intro K hK
        go_simp
        have lb6 := block_lt b1.out.1
        have nS : ¬ S9 x5.heap.size := fun hf => Nat.lt_irrefl _ ((hostA D W b y2).ge hH.out _ hf).2
        have bb := (Below.refl x5.heap.size x5).alloc (Nat.le_refl _) pkZ
        have hm := Mv.of_below S9 bb
        have sm := smOf hm b0.out b1.out
        replace hH := Lib.hid (Asr.below hH.out bb (Nat.le_trans hN0.out M.out.size))
        replace M := Lib.hid (M.out.trans hm)
        replace b0 := Lib.hid (hm.box b0.out)
        replace b1 := Lib.hid (hm.box b1.out)
        have b6 := Lib.hid (show (x5.alloc pkZ).heap[x5.heap.size]? = some pkZ ∧ ¬ S9 x5.heap.size from ⟨alloc1 x5 pkZ, nS⟩)
        refine hK _ _ (.inr sm) ?_
        clear hK K hm sm bb nS
        try simp only [Act.put, List.setIfInBounds_toArray, List.set_cons_zero, List.set_cons_succ]
        generalize x5.alloc pkZ = x7 at M b0 b1 hH b6 ⊢
        generalize x5.heap.size = g6 at b6 lb6 ⊢
        refine stepT 7 rfl (by decide +kernel) (by rfl) ?_
        intro K hK
        refine wp_storeB flatPk (.tmp 6) (.tmp 22) rfl g6 rfl _ rfl b6.out.1 rfl rfl rfl ?_
        intro z k6 hg6 hs6
        have hge6 : w.heap.size + 1 + 1 ≤ g6 := lb6
        have hN6 := hN0.out
        have hN7 := Nat.le_trans hN0.out M.out.size
        refine hK _ _ (.inl (by decide)) ?_
        clear hK K
        try simp only [Act.put, List.setIfInBounds_toArray, List.set_cons_zero, List.set_cons_succ]
        refine doneT (by kernel_rfl) ?_
        exact ⟨g6, rfl, k6, b6.out.2, hge6, M.out.grown_new hg6 (by omega), Asr.grown hH.out hg6 b6.out.2 (by omega) hN7, ⟨grown_block hg6 b0.out.1 (fun e => by injection e; omega), b0.out.2⟩, ⟨grown_block hg6 b1.out.1 (fun e => by injection e; omega), b1.out.2⟩⟩
      · clear hi
        refine ⟨_, rfl, by rfl, ?_⟩
        intro K hK
        go_simp
        have lb6 := block_lt b1.out.1
        have nS : ¬ S9 x5.heap.size := fun hf => Nat.lt_irrefl _ ((hostA D W b y2).ge hH.out _ hf).2
        have bb := (Below.refl x5.heap.size x5).alloc (Nat.le_refl _) pkZ
        have hm := Mv.of_below S9 bb
        have sm := smOf hm b0.out b1.out
        replace hH := Lib.hid (Asr.below hH.out bb (Nat.le_trans hN0.out M.out.size))
        replace M := Lib.hid (M.out.trans hm)
        replace b0 := Lib.hid (hm.box b0.out)
        replace b1 := Lib.hid (hm.box b1.out)
        have b6 := Lib.hid (show (x5.alloc pkZ).heap[x5.heap.size]? = some pkZ ∧ ¬ S9 x5.heap.size from ⟨alloc1 x5 pkZ, nS⟩)
        refine hK _ _ (.inr sm) ?_
        clear hK K hm sm bb nS
        try simp only [Act.put, List.setIfInBounds_toArray, List.set_cons_zero, List.set_cons_succ]
        generalize x5.alloc pkZ = x7 at M b0 b1 hH b6 ⊢
        generalize x5.heap.size = g6 at b6 lb6 ⊢
        refine stepT 2 rfl (by decide +kernel) (by rfl) ?_
        intro K hK
        go_simp
        refine (dpid_any x7 t.tog).mono ?_
        rintro e x6 ⟨rfl, rfl⟩
        refine hK _ _ (.inr (Sm.refl _ _)) ?_
        clear hK K
        try simp only [Act.put, List.setIfInBounds_toArray, List.set_cons_zero, List.set_cons_succ]
        ((first | (refine takeT 5 (v := ?_) rfl (by decide +kernel) (by decide +kernel) (by decide +kernel) (fun _ _ _ h => h) (by decide +kernel) (Or.inl ⟨by rfl, ?_⟩) ?_; rotate_left 1; (focus (intro W hW; have hcW := hW.at; (try dsimp only at hcW); go_simp; first | done | with_reducible rfl)); try simp only [Act.put, List.setIfInBounds_toArray, List.set_cons_zero, List.set_cons_succ]) | (refine takeW 5 (v := ?_) rfl (by decide +kernel) (by decide +kernel) (by decide +kernel) (fun _ _ _ h => h) (Or.inl ⟨by rfl, ?_⟩) ?_; rotate_left 1; (focus (intro W hW; go_simp; first | done | with_reducible rfl)); try simp only [Act.put, List.setIfInBounds_toArray, List.set_cons_zero, List.set_cons_succ]) | (refine takeW 5 rfl (by decide +kernel) (by decide +kernel) (by decide +kernel) (fun _ _ _ h => h) (Or.inr ⟨by rfl, rfl⟩) ?_; try simp only [Act.put, List.setIfInBounds_toArray, List.set_cons_zero, List.set_cons_succ]) | skip))
        refine stepT 7 rfl (by decide +kernel) (by rfl) ?_
        intro K hK
        refine wp_storeB flatPk (.tmp 6) (.tmp 22) rfl g6 rfl _ rfl b6.out.1 rfl rfl rfl ?_
        intro z k6 hg6 hs6
        have hge6 : w.heap.size + 1 + 1 ≤ g6 := lb6
        have hN6 := hN0.out
        have hN7 := Nat.le_trans hN0.out M.out.size
        refine hK _ _ (.inl (by decide)) ?_
        clear hK K
        try simp only [Act.put, List.setIfInBounds_toArray, List.set_cons_zero, List.set_cons_succ]
        refine doneT (by kernel_rfl) ?_
        exact ⟨g6, rfl, k6, b6.out.2, hge6, M.out.grown_new hg6 (by omega), Asr.grown hH.out hg6 b6.out.2 (by omega) hN7, ⟨grown_block hg6 b0.out.1 (fun e => by injection e; omega), b0.out.2⟩, ⟨grown_block hg6 b1.out.1 (fun e => by injection e; omega), b1.out.2⟩⟩
    clear M b0 b1 hH
    rintro act z ⟨g6, rfl, k6, n6, hge6, M, hH, b0, b1⟩
    try simp only [Act.put, List.setIfInBounds_toArray, List.set_cons_zero, List.set_cons_succ]
    have hNz := Nat.le_trans hN0.out M.size
    have Hr6 := Lib.hid (Hr.out.mvlt M)
    have k7 := Lib.hid (alloc1 z pkZ)
    have hbz := Lib.hid ((Below.refl z.heap.size z).alloc (Nat.le_refl _) pkZ)
    have n7 := Lib.hid (show ¬ S9 z.heap.size from fun hf => Nat.lt_irrefl _ ((hostA D W b y2).ge hH _ hf).2)
    have K6 := Lib.hid (show _ ∧ _ from ⟨k6, n6⟩)
    have M6 := Lib.hid M
    have H6 := Lib.hid hH
    have B06 := Lib.hid b0
    have B16 := Lib.hid b1
    have Hge6 := Lib.hid hge6
    have HNz := Lib.hid hNz
    clear k6 n6 M hH b0 b1 hge6 hNz
    go_wp2_with (first | (refine wpl_storeB flatPk rfl (.tmp 7) (.tmp 23) rfl _ rfl _ rfl k7.out rfl rfl rfl ?_; intro z2 k72 hg7 hs7; have B02 := Lib.hid (grown_block hg7 ((hbz.out.block _ (block_lt B06.out.1)).trans B06.out.1) (fun e => by injection e; have := block_lt B06.out.1; omega)); have B12 := Lib.hid (grown_block hg7 ((hbz.out.block _ (block_lt B16.out.1)).trans B16.out.1) (fun e => by injection e; have := block_lt B16.out.1; omega)); have K62 := Lib.hid (grown_block hg7 ((hbz.out.block _ (block_lt K6.out.1)).trans K6.out.1) (fun e => by injection e; have := block_lt K6.out.1; omega)); replace k72 := Lib.hid k72; replace hg7 := Lib.hid hg7; replace hs7 := Lib.hid hs7) | (refine wpl_loadB flatHost rfl (.tmp 2) rfl _ rfl B02.out rfl ?_) | (refine wpl_loadB flatPk rfl (.tmp 6) rfl _ rfl K62.out rfl ?_))
    have hbelow : Below z.heap.size z z2 := below_grown hbz.out hg7.out hbz.out.size (Nat.le_refl _)
    have hm2 := Mv.of_below S9 hbelow
    have hN2 := Nat.le_trans HNz.out hbelow.size
    have hH2 := Asr.below H6.out hbelow HNz.out
    refine (KS2.out z2 S9 hH2 (Hr6.out.mv hm2) hN2).mono ?_
    rintro e z3 ⟨rfl, S3, hH3, hm3⟩
    have M3 := Lib.hid ((M6.out.trans hm2).trans hm3)
    have hb7 := hm3.box ⟨k72.out, n7.out⟩
    have hb0 := hm3.box ⟨B02.out, B06.out.2⟩
    have hb1 := hm3.box ⟨B12.out, B16.out.2⟩
    have hb6 := hm3.box ⟨K62.out, K6.out.2⟩
    have K73 := Lib.hid hb7
    have B03 := Lib.hid hb0
    have B13 := Lib.hid hb1
    have K63 := Lib.hid hb6
    have H3 := Lib.hid hH3
    have HN3 := Lib.hid (Nat.le_trans hN2 hm3.size)
    have e4 := block_at hb1.1 (i := 4) (v := .bool t.iso) rfl
    have hz7 := block_lt B06.out.1
    have Hz7 := Lib.hid hz7
    clear hbelow hm2 hN2 hH2 hH3 hm3 hb7 hb0 hb1 hb6 hz7
    cases fb2
    · cases hiso : t.iso
      · rw [hiso] at HR0 e4
        have HR1 : (x', res) = ((y2.1, (next y2.2.1).1, y2.2.2 ++ [(datP t, true, (next y2.2.1).2)]), hsR t.what t.iso zeroP.pid) := by rw [← HR0.out, show dataR next ask true y2 t = ((y2.1, (next y2.2.1).1, y2.2.2 ++ [(datP t, true, (next y2.2.1).2)]), zeroP, false) from by unfold dataR; rw [if_neg (fun h => by have := Hfb2.out; rw [h.1] at this; cases this)], if_neg (by simp), hiso]
        have HR2 := Lib.hid HR1
        clear HR1 hiso
        have i0 := block_at K73.out.1 (i := 0) (v := .int .u8 (zeroP.pid : Int)) rfl
        have KH := Lib.hid fun X => hand_any X t A c zeroP.pid
        go_wp2_with (refine wpl_loadB flatTry rfl (.tmp 3) rfl _ rfl B13.out.1 rfl ?_)
        refine (KH.out _).mono ?_
        rintro e zz ⟨rfl, bb⟩
        obtain ⟨rfl, rfl⟩ := pair_eq HR2.out
        have Hf := Lib.hid (And.intro (Asr.below H3.out bb HN3.out) (M3.out.trans (Mv.of_below _ bb)))
        clear bb i0
        go_wp2
        go_ret
        exact ⟨rfl, _, Hf.out.1, Hf.out.2⟩
      · rw [hiso] at HR0 e4
        clear hiso
        have HR1 : (x', res) = ((y2.1, (next y2.2.1).1, y2.2.2 ++ [(datP t, true, (next y2.2.1).2)]), 1) := by rw [← HR0.out, show dataR next ask true y2 t = ((y2.1, (next y2.2.1).1, y2.2.2 ++ [(datP t, true, (next y2.2.1).2)]), zeroP, false) from by unfold dataR; rw [if_neg (fun h => by have := Hfb2.out; rw [h.1] at this; cases this)], if_pos rfl]
        obtain ⟨rfl, rfl⟩ := pair_eq HR1
        clear HR1
        go_wp2
        go_ret
        exact ⟨rfl, _, H3.out, M3.out⟩
    · obtain ⟨q, hq⟩ : ∃ q, dataR next ask true y2 t = q := ⟨_, rfl⟩
      have hy3 : q = ask y2.1 (next y2.2.1).1 (y2.2.2 ++ [(datP t, true, (next y2.2.1).2)]) (datP t) := by rw [← hq]; unfold dataR; rw [if_pos ⟨by have := Hfb2.out; simpa using this, rfl⟩]
      rw [← hy3] at KA2
      clear hy3
      obtain ⟨y3, a, o⟩ := q
      have Hq := Lib.hid hq
      clear hq
      go_wp2_with (first | (refine wpl_loadB flatHost rfl (.tmp 2) rfl _ rfl B03.out.1 rfl ?_) | (refine wpl_loadB flatPk rfl (.tmp 6) rfl _ rfl K63.out.1 rfl ?_))
      refine (KA2.out z3 S3 H3.out (Hr.out.mvlt M3.out) HN3.out (HL.out.belowN (M3.out.belowN (fun k hk => (Hge.out k hk).1) hN0.out) hLN)).mono ?_
      rintro e z4 ⟨A4, c4, S4, rfl, _, hH4, hm4⟩
      have hb7 := hm4.box K73.out
      have hb1 := hm4.box B13.out
      have K74 := Lib.hid hb7
      have B14 := Lib.hid hb1
      have M4 := Lib.hid (M3.out.trans hm4)
      have H4 := Lib.hid hH4
      have HN4 := Lib.hid (Nat.le_trans HN3.out hm4.size)
      clear hb7 hb1 hH4 hm4 e4
      have KH := Lib.hid fun X => hand_any X t A c a.pid
      cases hiso : t.iso
      · rw [hiso] at HR0
        have HR1 : (x', res) = (y3, hsR t.what t.iso a.pid) := by rw [← HR0.out, Hq.out, if_neg (by simp), hiso]
        have HR2 := Lib.hid HR1
        replace hiso := Lib.hid hiso
        clear HR1
        go_wp2_with (first | (refine wpl_storeB flatPk rfl (.tmp 7) (.tmp 34) rfl _ rfl _ rfl K74.out.1 rfl rfl rfl ?_; intro z5 k75 hg75 hs75; have B15 := grown_block hg75 B14.out.1 (fun e => by injection e; have := Hz7.out; have := block_lt B16.out.1; omega); have e4 := block_at B15 (i := 4) (v := .bool t.iso) rfl; rw [hiso.out] at e4; have i0 := block_at k75 (i := 0) (v := .int .u8 (a.pid : Int)) rfl; replace B15 := Lib.hid B15; replace k75 := Lib.hid k75; replace hg75 := Lib.hid hg75; replace hs75 := Lib.hid hs75) | (refine wpl_loadB flatTry rfl (.tmp 3) rfl _ rfl B15.out rfl ?_))
        have hlt := Lib.hid (block_lt B16.out.1)
        have M5 := Lib.hid (M4.out.grown_new hg75.out (by have := hlt.out; omega))
        have H5 := Lib.hid (Asr.grown H4.out hg75.out K74.out.2 HNz.out HN4.out)
        have HN5 := Lib.hid (show N ≤ z5.heap.size by rw [hs75.out]; exact HN4.out)
        refine (KH.out z5).mono ?_
        rintro e zz ⟨rfl, bb⟩
        obtain ⟨rfl, rfl⟩ := pair_eq HR2.out
        have Hf := Lib.hid (And.intro (Asr.below H5.out bb HN5.out) (M5.out.trans (Mv.of_below _ bb)))
        clear bb i0
        go_wp2
        go_ret
        exact ⟨rfl, _, Hf.out.1, Hf.out.2⟩
      · rw [hiso] at HR0
        have HR1 : (x', res) = (y3, 1) := by rw [← HR0.out, Hq.out, if_pos rfl]
        replace hiso := Lib.hid hiso
        obtain ⟨rfl, rfl⟩ := pair_eq HR1
        clear HR1
        go_wp2_with (refine wpl_storeB flatPk rfl (.tmp 7) (.tmp 34) rfl _ rfl _ rfl K74.out.1 rfl rfl rfl ?_; intro z5 k75 hg75 hs75; have B15 := grown_block hg75 B14.out.1 (fun e => by injection e; have := Hz7.out; have := block_lt B16.out.1; omega); have e4 := block_at B15 (i := 4) (v := .bool t.iso) rfl; rw [hiso.out] at e4; have i0 := block_at k75 (i := 0) (v := .int .u8 (a.pid : Int)) rfl; replace B15 := Lib.hid B15; replace k75 := Lib.hid k75; replace hg75 := Lib.hid hg75; replace hs75 := Lib.hid hs75)
        have hlt := Lib.hid (block_lt B16.out.1)
        have M5 := Lib.hid (M4.out.grown_new hg75.out (by have := hlt.out; omega))
        have H5 := Lib.hid (Asr.grown H4.out hg75.out K74.out.2 HNz.out HN4.out)
        have HN5 := Lib.hid (show N ≤ z5.heap.size by rw [hs75.out]; exact HN4.out)
        go_ret
        exact ⟨rfl, _, H5.out, M5.out⟩
end

end Go.Proofs.YtgihpgdjkanodaaGreatDoor

namespace Go.Proofs.YtgihpgdjkanodaaGreatDoor
open Go Go.RowKit

/-- Whether the fields of a transaction are in range, and go together. -/
def Tr.Pos (t : Tr) : Prop := t.addr ≤ 127 ∧ t.endp ≤ 15 ∧ ¬ (t.iso = true ∧ t.tog = true) ∧ ((t.what = 9 ∧ 0 ≤ t.max ∧ t.max ≤ 1024 ∧ t.data.length = 0) ∨ (t.what = 1 ∧ t.max = 0) ∨ (t.what = 13 ∧ t.max = 0 ∧ t.iso = false ∧ t.tog = false))
instance (t : Tr) : Decidable t.Pos := by unfold Tr.Pos; infer_instance
/-- The error of a transaction. -/
def Tr.err (t : Tr) : Nat := if t.Pos then (if t.what = 13 ∧ t.data.length ≠ 8 then 5 else if 1024 < t.data.length then 3 else 0) else 1

set_option maxHeartbeats 1600000 in
set_option maxRecDepth 100000 in
theorem pos_any (w : World) (t : Tr) (A : Option Addr) (c : Nat) (B : Bool) (hB : decide t.Pos = B) : Calls Tryz.prog 46 #[trV t A c] w (ResV w (.bool B)) := by
  obtain ⟨ad, en, wh, tg, is, mx, xs⟩ := t
  have Hb := Lib.hid ((Below.refl w.heap.size w).alloc (Nat.le_refl _) (trB ⟨ad, en, wh, tg, is, mx, xs⟩ A c))
  unfold Tr.Pos at hB
  simp only [trV, trL, trB] at *
  have HB := Lib.hid hB
  clear hB
  by_cases h1 : (127 : Int) < (ad : Int)
  · have : B = false := by rw [← HB.out]; simp; omega
    subst this
    go_enter Tryz.func46, Tryz.ntmps46
    go_wp2
    go_ret
    exact ⟨rfl, Hb.out⟩
  by_cases h2 : (15 : Int) < (en : Int)
  · have : B = false := by rw [← HB.out]; simp; omega
    subst this
    go_enter Tryz.func46, Tryz.ntmps46
    go_wp2
    go_ret
    exact ⟨rfl, Hb.out⟩
  by_cases h3 : is = true ∧ tg = true
  · obtain ⟨rfl, rfl⟩ := h3
    have : B = false := by rw [← HB.out]; simp
    subst this
    go_enter Tryz.func46, Tryz.ntmps46
    go_wp2
    go_ret
    exact ⟨rfl, Hb.out⟩
  have h3' : (is = false) ∨ (is = true ∧ tg = false) := by cases is <;> cases tg <;> simp_all
  clear h3
  have ha : ad ≤ 127 := by omega
  have he : en ≤ 15 := by omega
  have H1 := Lib.hid ha
  have H2 := Lib.hid he
  clear ha he
  obtain ⟨b9, hb9⟩ : ∃ b9, (wh == 9) = b9 := ⟨_, rfl⟩
  obtain ⟨b1, hb1⟩ : ∃ b1, (wh == 1) = b1 := ⟨_, rfl⟩
  obtain ⟨b13, hb13⟩ : ∃ b13, (wh == 13) = b13 := ⟨_, rfl⟩
  have i9 : ((wh : Int) == 9) = b9 := by rw [show ((wh : Int) == 9) = (wh == 9) from castEq wh 9, hb9]
  have i1 : ((wh : Int) == 1) = b1 := by rw [show ((wh : Int) == 1) = (wh == 1) from castEq wh 1, hb1]
  have i13 : ((wh : Int) == 13) = b13 := by rw [show ((wh : Int) == 13) = (wh == 13) from castEq wh 13, hb13]
  have B9 := Lib.hid hb9
  have B1 := Lib.hid hb1
  have B13 := Lib.hid hb13
  clear hb9 hb1 hb13
  have G : ∀ (C : Bool), ((is = true → tg = false) → decide (ad ≤ 127 ∧ en ≤ 15 ∧ ¬(is = true ∧ tg = true) ∧ (wh = 9 ∧ 0 ≤ mx ∧ mx ≤ 1024 ∧ xs.length = 0 ∨ wh = 1 ∧ mx = 0 ∨ wh = 13 ∧ mx = 0 ∧ is = false ∧ tg = false)) = C) → B = C := fun _ h => by
    rw [← HB.out]
    exact h (fun h' => by rcases h3' with h | h; (rw [h] at h'; cases h'); exact h.2)
  have G' := Lib.hid G
  clear G HB
  cases b9
  · cases b1
    · cases b13
      · have hw9 : wh ≠ 9 := by simpa using B9.out
        have hw1 : wh ≠ 1 := by simpa using B1.out
        have hw13 : wh ≠ 13 := by simpa using B13.out
        have : B = false := G'.out _ fun _ => by simp [hw9, hw1, hw13]
        subst this
        clear hw9 hw1 hw13
        rcases h3' with rfl | ⟨rfl, rfl⟩
        all_goals
          go_enter Tryz.func46, Tryz.ntmps46
          go_wp2
          go_ret
          exact ⟨rfl, Hb.out⟩
      · have hw13 : wh = 13 := by simpa using B13.out
        obtain ⟨bm, hbm⟩ : ∃ bm, ((mx : Int) == 0) = bm := ⟨_, rfl⟩
        have : B = (bm && !is && !tg) := G'.out _ fun _ => by
          rw [← hbm, hw13]
          have h1 := H1.out
          have h2 := H2.out
          cases is <;> cases tg <;> simp [h1, h2] <;> rfl
        clear hw13
        rcases h3' with rfl | ⟨rfl, rfl⟩
        · cases bm
          · subst this
            go_enter Tryz.func46, Tryz.ntmps46
            go_wp2
            go_ret
            exact ⟨rfl, Hb.out⟩
          · subst this
            cases tg
            all_goals
              go_enter Tryz.func46, Tryz.ntmps46
              go_wp2
              go_ret
              exact ⟨rfl, Hb.out⟩
        · cases bm
          all_goals
            subst this
            go_enter Tryz.func46, Tryz.ntmps46
            go_wp2
            go_ret
            exact ⟨rfl, Hb.out⟩
    · have hw1 : wh = 1 := by simpa using B1.out
      obtain ⟨bm, hbm⟩ : ∃ bm, ((mx : Int) == 0) = bm := ⟨_, rfl⟩
      have : B = bm := G'.out _ fun h => by
        rw [← hbm, hw1]
        have h1 := H1.out
        have h2 := H2.out
        cases is <;> cases tg <;> simp [h1, h2] at h ⊢ <;> rfl
      subst this
      clear hw1
      rcases h3' with rfl | ⟨rfl, rfl⟩
      all_goals
        go_enter Tryz.func46, Tryz.ntmps46
        go_wp2
        go_ret
        exact ⟨rfl, Hb.out⟩
  · have hw9 : wh = 9 := by simpa using B9.out
    by_cases hm0 : 0 ≤ mx
    · by_cases hm1 : mx ≤ 1024
      · obtain ⟨bz, hbz⟩ : ∃ bz, ((xs.length : Int) == 0) = bz := ⟨_, rfl⟩
        have : B = bz := G'.out _ fun h => by
          rw [← hbz, hw9, show ((xs.length : Int) == 0) = (xs.length == 0) from castEq xs.length 0]
          have h1 := H1.out
          have h2 := H2.out
          cases is <;> cases tg <;> simp [h1, h2, hm0, hm1] at h ⊢ <;> (cases xs <;> rfl)
        subst this
        clear hw9
        rcases h3' with rfl | ⟨rfl, rfl⟩
        all_goals
          go_enter Tryz.func46, Tryz.ntmps46
          go_wp2
          go_ret
          exact ⟨rfl, Hb.out⟩
      · have : B = false := G'.out _ fun _ => by rw [hw9]; simp [hm1]
        subst this
        clear hw9
        rcases h3' with rfl | ⟨rfl, rfl⟩
        all_goals
          go_enter Tryz.func46, Tryz.ntmps46
          go_wp2
          go_ret
          exact ⟨rfl, Hb.out⟩
    · have : B = false := G'.out _ fun _ => by rw [hw9]; simp [hm0]
      subst this
      clear hw9
      rcases h3' with rfl | ⟨rfl, rfl⟩
      all_goals
        go_enter Tryz.func46, Tryz.ntmps46
        go_wp2
        go_ret
        exact ⟨rfl, Hb.out⟩

set_option maxHeartbeats 1600000 in
set_option maxRecDepth 100000 in
theorem tcheck_any (w : World) (t : Tr) (A : Option Addr) (c : Nat) (hle : t.data.length ≤ 9223372036854775807) : Calls Tryz.prog 36 #[trV t A c] w (ResV w (.int .i64 (t.err : Int))) := by
  obtain ⟨B, hB⟩ : ∃ B, decide t.Pos = B := ⟨_, rfl⟩
  have KP := Lib.hid fun X => pos_any X t A c B hB
  have hE : t.err = if B = true then (if t.what = 13 ∧ t.data.length ≠ 8 then 5 else if 1024 < t.data.length then 3 else 0) else 1 := by
    unfold Tr.err
    subst hB
    simp only [decide_eq_true_eq]
  generalize t.err = E at hE ⊢
  have HE := Lib.hid hE
  clear hE hB
  have Hb := Lib.hid ((Below.refl w.heap.size w).alloc (Nat.le_refl _) (trB t A c))
  have g0 := alloc1 w (trB t A c)
  have B0 := Lib.hid g0
  clear g0
  have i13 : ((t.what : Int) == 13) = (t.what == 13) := castEq t.what 13
  have i8 : ((t.data.length : Int) != 8) = !(t.data.length == 8) := by rw [bne, show ((t.data.length : Int) == 8) = (t.data.length == 8) from castEq t.data.length 8]
  obtain ⟨b13, hb13⟩ : ∃ b13, (t.what == 13) = b13 := ⟨_, rfl⟩
  obtain ⟨b8, hb8⟩ : ∃ b8, (t.data.length == 8) = b8 := ⟨_, rfl⟩
  rw [hb13] at i13
  rw [hb8] at i8
  have H13 := Lib.hid hb13
  have H8 := Lib.hid hb8
  clear hb13 hb8
  cases B
  · have hE1 : E = 1 := by rw [HE.out, if_neg (by simp)]
    subst hE1
    go_enter Tryz.func36, Tryz.ntmps36
    go_wp2_with (refine wpl_loadB flatTry rfl (.tmp 1) rfl _ rfl B0.out rfl ?_)
    refine (KP.out _).mono ?_
    rintro e y ⟨rfl, bb⟩
    have Hbb := Lib.hid (Hb.out.trans (bb.mono Hb.out.size))
    clear bb
    go_wp2
    go_ret
    exact ⟨rfl, Hbb.out⟩
  · rw [if_pos rfl] at HE
    by_cases h5 : b13 = true ∧ b8 = false
    · have hE1 : E = 5 := by rw [HE.out, if_pos ⟨by have := H13.out; rw [h5.1] at this; simpa using this, by have := H8.out; rw [h5.2] at this; simpa using this⟩]
      obtain ⟨rfl, rfl⟩ := h5
      subst hE1
      go_enter Tryz.func36, Tryz.ntmps36
      go_wp2_with (refine wpl_loadB flatTry rfl (.tmp 1) rfl _ rfl B0.out rfl ?_)
      refine (KP.out _).mono ?_
      rintro e y ⟨rfl, bb⟩
      have Hbb := Lib.hid (Hb.out.trans (bb.mono Hb.out.size))
      have hg := (bb.block _ (block_lt B0.out)).trans B0.out
      obtain ⟨c0, c1, c2, c3, c4, c5, c6⟩ := tr_cells hg
      clear bb hg
      go_wp2
      go_ret
      exact ⟨rfl, Hbb.out⟩
    · have hn5 : ¬ (t.what = 13 ∧ t.data.length ≠ 8) := fun h => h5 ⟨by rw [← H13.out]; simpa using h.1, by rw [← H8.out]; simpa using h.2⟩
      rw [if_neg hn5] at HE
      clear hn5
      have h5' : b13 = false ∨ (b13 = true ∧ b8 = true) := by cases b13 <;> cases b8 <;> simp_all
      clear h5
      by_cases hl : (1024 : Int) < (t.data.length : Int)
      · have hE1 : E = 3 := by rw [HE.out, if_pos (by omega)]
        subst hE1
        rcases h5' with rfl | ⟨rfl, rfl⟩
        all_goals
          go_enter Tryz.func36, Tryz.ntmps36
          go_wp2_with (refine wpl_loadB flatTry rfl (.tmp 1) rfl _ rfl B0.out rfl ?_)
          refine (KP.out _).mono ?_
          rintro e y ⟨rfl, bb⟩
          have Hbb := Lib.hid (Hb.out.trans (bb.mono Hb.out.size))
          have hg := (bb.block _ (block_lt B0.out)).trans B0.out
          obtain ⟨c0, c1, c2, c3, c4, c5, c6⟩ := tr_cells hg
          clear bb hg
          go_wp2
          go_ret
          exact ⟨rfl, Hbb.out⟩
      · have hE1 : E = 0 := by rw [HE.out, if_neg (by omega)]
        subst hE1
        rcases h5' with rfl | ⟨rfl, rfl⟩
        all_goals
          go_enter Tryz.func36, Tryz.ntmps36
          go_wp2_with (refine wpl_loadB flatTry rfl (.tmp 1) rfl _ rfl B0.out rfl ?_)
          refine (KP.out _).mono ?_
          rintro e y ⟨rfl, bb⟩
          have Hbb := Lib.hid (Hb.out.trans (bb.mono Hb.out.size))
          have hg := (bb.block _ (block_lt B0.out)).trans B0.out
          obtain ⟨c0, c1, c2, c3, c4, c5, c6⟩ := tr_cells hg
          clear bb hg
          go_wp2
          go_ret
          exact ⟨rfl, Hbb.out⟩

end Go.Proofs.YtgihpgdjkanodaaGreatDoor

