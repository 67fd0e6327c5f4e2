/-
  Helper text, several in one; no statement is proved here.
-/
import Derived.Test.YtgihpgdjkanodaaGreatDoorBox
import Derived.Deep.MidRow
namespace Go.Proofs.YtgihpgdjkanodaaGreatDoor
open Go Go.RowKit

theorem Tryz.info5' : (Tryz.prog.info? 5).map (fun i => (i.zero, i.size, i.bytes)) = some (some (.int .u8 0), 1, 1) := by kernel_rfl

/-- Bytes in memory that is new since w. -/
def ResNU (w : World) (xs : List UInt8) (e : Ending) (w' : World) : Prop :=
  ∃ A c, e = .returned (.slice A xs.length c) ∧ RdU (fun k => w.heap.size ≤ k ∧ k < w'.heap.size) w' A c xs ∧ Below w.heap.size w w'

set_option maxHeartbeats 400000 in
set_option maxRecDepth 100000 in
theorem bcloneU_any (w : World) (A : Option Addr) (c : Nat) (xs : List UInt8) (hx : Rd w w.heap.size A c xs) (hl : xs.length ≤ 1000000) :
    Calls Tryz.prog 23 #[.slice A xs.length c] w (ResNU w xs) := by
  have qT : ∀ (w : World) (a : Option Addr) (n c n' c' : Nat), (binOp .eql 47 (.slice a n c) (.slice none n' c')).run Tryz.prog w = .ok (.bool a.isNone) w := fun w a n c n' c' => Lib.run_eql_slice_nil w _ _ a n c n' c' Tryz.underlying47
  rcases A with _ | ad
  · have h0 : xs = [] := by
      rcases Nat.eq_zero_or_pos xs.length with h0 | h0
      · exact List.eq_nil_of_length_eq_zero h0
      · obtain ⟨b, off, e, _⟩ := hx.cells h0
        cases e
    subst h0
    rw [List.length_nil]
    go_enter Tryz.func23, Tryz.ntmps23
    go_wp2
    go_ret
    exact ⟨none, 0, rfl, RdU.nil _, Below.refl _ _⟩
  · have hown := Lib.hid (own_built w 5 [] (by simp))
    have hx1 := Lib.hid (hx.alloc (Nat.le_refl _) (.cells (List.map bv []).toArray 5))
    have hl' := Lib.hid hl
    clear hx hl
    go_enter Tryz.func23, Tryz.ntmps23
    go_wp2_with (at_builtin; refine wpl_appendN Tryz.underlying47 Tryz.info5' rfl (.tmp 5) (.tmp 6) rfl w.heap.size _ [] rfl hown.out _ c (some ad) xs hx1.out rfl (by have := hl'.out; simp; omega) (by simp) ?_; intro v' w' ho hbb)
    go_ret
    obtain ⟨A', c', rfl, hr⟩ := RdU.of_own (xs := [] ++ xs) ho
    simp only [List.nil_append] at hr ⊢
    exact ⟨A', c', rfl, hr, ((Below.refl _ w).alloc (Nat.le_refl _) _).trans hbb⟩

theorem bclip_any (w : World) (A : Option Addr) (n c : Nat) (hle : n ≤ c) (hcap : c ≤ 9223372036854775807) : Calls Tryz.prog 22 #[.slice A n c] w fun e w' => e = .returned (.slice A n n) ∧ w = w' := by
  go_enter Tryz.func22, Tryz.ntmps22
  go_wp2
  go_ret
  exact ⟨rfl, rfl⟩

/-- Bytes in memory that is new since w. -/
def ResN (w : World) (xs : List UInt8) (e : Ending) (w' : World) : Prop :=
  ∃ A c, e = .returned (.slice A xs.length c) ∧ RdS (fun k => w.heap.size ≤ k ∧ k < w'.heap.size) w' A c xs ∧ Below w.heap.size w w'
/-- The packet with its data in memory that is new since w. -/
def ResPk (w : World) (p : Pkt) (e : Ending) (w' : World) : Prop :=
  ∃ A c, e = .returned (pkV p A c) ∧ RdS (fun k => w.heap.size ≤ k ∧ k < w'.heap.size) w' A c p.data ∧ Below w.heap.size w w'
/-- The packet with its data in memory that is new since w. -/
def ResPkU (w : World) (p : Pkt) (e : Ending) (w' : World) : Prop :=
  ∃ A c, e = .returned (pkV p A c) ∧ RdU (fun k => w.heap.size ≤ k ∧ k < w'.heap.size) w' A c p.data ∧ Below w.heap.size w w'

/-- The block of a packet that lies alone. -/
abbrev pkB (p : Pkt) (A : Option Addr) (c : Nat) : Obj := .cells #[.int .u8 (p.pid : Int), .int .u8 (p.addr : Int), .int .u8 (p.endp : Int), .int .u16 (p.frame : Int), .int .u8 (p.hub : Int), .int .u8 (p.port : Int), .bool p.comp, .bool p.low, .int .u8 (p.kind : Int), .slice A p.data.length c] 82
/-- .. of a packet of zeros. -/
abbrev pkZ : Obj := .cells #[.int .u8 0, .int .u8 0, .int .u8 0, .int .u16 0, .int .u8 0, .int .u8 0, .bool false, .bool false, .int .u8 0, .slice none 0 0] 82
theorem pk_cells {w : World} {k : Nat} {p : Pkt} {A : Option Addr} {c : Nat} (h : w.heap[k]? = some (pkB p A c)) :
    w.cell? ⟨k, 0, none⟩ = some (.int .u8 (p.pid : Int)) ∧ w.cell? ⟨k, 1, none⟩ = some (.int .u8 (p.addr : Int)) ∧ w.cell? ⟨k, 2, none⟩ = some (.int .u8 (p.endp : Int)) ∧ w.cell? ⟨k, 3, none⟩ = some (.int .u16 (p.frame : Int)) ∧
    w.cell? ⟨k, 4, none⟩ = some (.int .u8 (p.hub : Int)) ∧ w.cell? ⟨k, 5, none⟩ = some (.int .u8 (p.port : Int)) ∧ w.cell? ⟨k, 6, none⟩ = some (.bool p.comp) ∧ w.cell? ⟨k, 7, none⟩ = some (.bool p.low) ∧ w.cell? ⟨k, 8, none⟩ = some (.int .u8 (p.kind : Int)) ∧
    w.cell? ⟨k, 9, none⟩ = some (.slice A p.data.length c) :=
  ⟨cell_at h 0, cell_at h 1, cell_at h 2, cell_at h 3, cell_at h 4, cell_at h 5, cell_at h 6, cell_at h 7, cell_at h 8, cell_at h 9⟩
theorem pk_free {w : World} {k t : Nat} {cs : Array Value} (h : w.heap[k]? = some (.cells cs t (0, 0))) (i : Nat) : w.frozen? ⟨k, i, none⟩ = false := by simp [World.frozen?, h]

set_option maxHeartbeats 800000 in
set_option maxRecDepth 100000 in
theorem ownU_any (w : World) (p : Pkt) (A : Option Addr) (c : Nat) (hx : Rd w w.heap.size A c p.data) (hl : p.data.length ≤ 1000000) :
    Calls Tryz.prog 87 #[pkV p A c] w (ResPkU w p) := by
  obtain ⟨h0, h1, h2, h3⟩ := alloc2 w (pkB p A c) pkZ
  have hx2 := Lib.hid ((hx.below h3).more h3.size)
  have hl' := Lib.hid hl
  clear hx hl
  obtain ⟨p0, p1, p2, p3, p4, p5, p6, p7, p8, xs⟩ := p
  simp only [pkB, pkV, pkZ] at h0 h1 h2 h3 hx2 hl' ⊢
  have H0 := Lib.hid h0
  have H1 := Lib.hid h1
  have H2 := Lib.hid h2
  have H3 := Lib.hid h3
  clear h0 h1 h2 h3
  go_enter Tryz.func87, Tryz.ntmps87
  go_wp2_with fail
  refine (bcloneU_any _ A c xs (hx2.out) hl'.out).mono ?_
  rintro e w1 ⟨A1, c1, rfl, hr1, hb1⟩
  have k0 := (hb1.block _ (block_lt H0.out)).trans H0.out
  have k1 := (hb1.block _ (block_lt H1.out)).trans H1.out
  have hB := Lib.hid (H3.out.trans (hb1.mono H3.out.size))
  have hr := Lib.hid (hr1.mono (G := fun k => w.heap.size + 1 + 1 ≤ k ∧ k < w1.heap.size) fun k hk => ⟨by have := hk.1; rw [H2.out] at this; exact this, hk.2⟩)
  have hle := hr1.le
  have hcap := hr1.cap
  clear hr1 hb1 H0 H1 H2 H3 hx2
  have f9 := block_free k0 9
  have c9 := block_at k0 (i := 9) (v := .slice A xs.length c) rfl
  have k2 := Lib.hid (block_set k0 9 (.slice A1 xs.length xs.length))
  have k3 := Lib.hid ((Below.heap_setCell w1 ⟨w.heap.size, 9, none⟩ (.slice A1 xs.length xs.length) (w.heap.size + 1) (by simp)).trans k1)
  simp only [List.setIfInBounds_toArray, List.set_cons_zero, List.set_cons_succ] at k2
  clear k0 k1
  go_wp2_with fail
  refine (bclip_any _ A1 xs.length c1 hle hcap).mono ?_
  rintro e w1' ⟨rfl, rfl⟩
  have hr2 := Lib.hid (hr.out.clip)
  clear hle hcap hr
  go_wp2_with (first | (refine wpl_loadB flatPk rfl (.tmp 1) rfl _ rfl k2.out rfl ?_) | (refine wpl_storeB flatPk rfl (.tmp 2) (.tmp 8) rfl _ rfl _ rfl k3.out rfl rfl rfl ?_; intro w2 k4 hg2 hs2))
  refine bodyPost_ret (ret_cell flatPk rfl _ (w.heap.size + 1) rfl k4 rfl) rfl ?_
  have hs3 : w2.heap.size = w1.heap.size := by rw [hs2]; simp [World.setCell]
  have hsz := hB.out.size
  refine ⟨A1, xs.length, rfl, (hr2.out.keep fun k hk => ?_).mono fun k hk => ⟨by omega, by omega⟩, ?_⟩
  · rw [hg2.block k (by simp [World.setCell]; omega) (fun e => by injection e; omega), Below.heap_setCell _ _ _ _ (by show k ≠ w.heap.size; omega)]
  · exact below_grown (hB.out.setCell (p := ⟨w.heap.size, 9, none⟩) (Nat.le_refl _) _) hg2 (by simpa [World.setCell] using hsz) (by omega)

theorem own_any (w : World) (p : Pkt) (A : Option Addr) (c : Nat) (hx : Rd w w.heap.size A c p.data) (hl : p.data.length ≤ 1000000) :
    Calls Tryz.prog 87 #[pkV p A c] w (ResPk w p) := (ownU_any w p A c hx hl).mono fun e w' ⟨A1, c1, h1, h2, h3⟩ => ⟨A1, c1, h1, h2.rds, h3⟩

end Go.Proofs.YtgihpgdjkanodaaGreatDoor

namespace Go.Proofs.YtgihpgdjkanodaaGreatDoor
open Go Go.RowKit

/-- How the elements of a list lie: the cells, and which of its parts are bytes. -/
structure Lay (ι : Type) where
  ty : Nat
  sz : Nat
  fc : ι → Option Addr → Nat → List Value
  fd : ι → List UInt8
  len : ∀ s A c, (fc s A c).length = sz
  one : ∀ s A c, ∀ v ∈ fc s A c, v.oneCell' = true

section
variable {ι : Type} {L : Lay ι}
/-- The cells of a list, one element behind the other. -/
def Vs (L : Lay ι) (D : Nat → Prop) (w : World) : List ι → List Value → Prop
  | [], vs => vs = []
  | s :: l, vs => ∃ A c rest, vs = L.fc s A c ++ rest ∧ RdS D w A c (L.fd s) ∧ Vs L D w l rest
theorem Vs.keep {D : Nat → Prop} {w w' : World} (hk : ∀ k, D k → w'.heap[k]? = w.heap[k]?) : ∀ {l : List ι} {vs : List Value}, Vs L D w l vs → Vs L D w' l vs
  | [], _, h => h
  | _ :: _, _, ⟨A, c, rest, e, h1, h2⟩ => ⟨A, c, rest, e, h1.keep hk, Vs.keep hk h2⟩
theorem Vs.mono {D G : Nat → Prop} {w : World} (hk : ∀ k, D k → G k) : ∀ {l : List ι} {vs : List Value}, Vs L D w l vs → Vs L G w l vs
  | [], _, h => h
  | _ :: _, _, ⟨A, c, rest, e, h1, h2⟩ => ⟨A, c, rest, e, h1.mono hk, Vs.mono hk h2⟩
theorem Vs.lt {D : Nat → Prop} {w : World} : ∀ {l : List ι} {vs : List Value}, Vs L D w l vs → Vs L (fun k => D k ∧ k < w.heap.size) w l vs
  | [], _, h => h
  | _ :: _, _, ⟨A, c, rest, e, h1, h2⟩ => ⟨A, c, rest, e, h1.lt, Vs.lt h2⟩
theorem Vs.snoc {D : Nat → Prop} {w : World} {s : ι} {A : Option Addr} {c : Nat} (hr : RdS D w A c (L.fd s)) : ∀ {l : List ι} {vs : List Value}, Vs L D w l vs → Vs L D w (l ++ [s]) (vs ++ L.fc s A c)
  | [], _, h => ⟨A, c, [], by rw [show _ = [] from h]; simp, hr, rfl⟩
  | _ :: _, _, ⟨A', c', rest, e, h1, h2⟩ => ⟨A', c', rest ++ L.fc s A c, by rw [e, List.append_assoc], h1, Vs.snoc hr h2⟩
theorem Vs.length {D : Nat → Prop} {w : World} : ∀ {l : List ι} {vs : List Value}, Vs L D w l vs → vs.length = l.length * L.sz
  | [], _, h => by rw [show _ = [] from h]; simp
  | _ :: l, _, ⟨A, c, rest, e, _, h2⟩ => by rw [e, List.length_append, L.len, Vs.length h2, List.length_cons, Nat.add_mul]; omega
theorem Vs.one {D : Nat → Prop} {w : World} : ∀ {l : List ι} {vs : List Value}, Vs L D w l vs → ∀ v ∈ vs, v.oneCell' = true
  | [], _, h => by rw [show _ = [] from h]; simp
  | s :: _, _, ⟨A, c, rest, e, _, h2⟩ => by
    rw [e]
    intro v hv
    rcases List.mem_append.1 hv with h | h
    · exact L.one s A c v h
    · exact Vs.one h2 v h
/-- The element number j. -/
theorem Vs.at_ {D : Nat → Prop} {w : World} : ∀ {l : List ι} {vs : List Value}, Vs L D w l vs → ∀ j (h : j < l.length), ∃ A c, (∀ i, i < L.sz → vs[j * L.sz + i]? = (L.fc l[j] A c)[i]?) ∧ RdS D w A c (L.fd l[j])
  | [], _, _, j, h => absurd h (by simp)
  | s :: l, _, ⟨A, c, rest, e, h1, h2⟩, 0, h => ⟨A, c, fun i hi => by rw [e, Nat.zero_mul, Nat.zero_add, List.getElem?_append, if_pos (by rw [L.len]; exact hi)]; rfl, h1⟩
  | s :: l, _, ⟨A, c, rest, e, h1, h2⟩, j + 1, h => by
    obtain ⟨A', c', e1, e2⟩ := Vs.at_ h2 j (by simpa using h)
    refine ⟨A', c', fun i hi => ?_, by simpa using e2⟩
    have : (j + 1) * L.sz + i = L.sz + (j * L.sz + i) := by rw [Nat.add_mul]; omega
    rw [this, e, List.getElem?_append_right (by rw [L.len]; omega), L.len, Nat.add_sub_cancel_left]
    simpa using e1 i hi

/-- A list of structs in a row of its own: what it holds lies in the blocks of F, or below N. -/
structure OwnL (L : Lay ι) (N : Nat) (F : Nat → Prop) (w : World) (v : Value) (l : List ι) : Prop where
  ex : ∃ vs D, w.ownsRow N L.ty L.sz v l.length vs ∧ Vs L D w l vs ∧ (∀ k, D k → v.ownBlock ≠ some k) ∧ (∀ k, D k → F k ∨ k < N) ∧ (∀ k, v.ownBlock = some k → F k)
theorem OwnL.nil (N : Nat) (F : Nat → Prop) (w : World) : OwnL L N F w (.slice none 0 0) [] :=
  ⟨[], fun _ => False, ⟨by simp, .inl ⟨rfl, rfl⟩⟩, rfl, fun _ h => h.elim, fun _ h => h.elim, fun _ h => by cases h⟩
theorem OwnL.lt {N : Nat} {F : Nat → Prop} {w : World} {v : Value} {l : List ι} (h : OwnL L N F w v l) : OwnL L N (fun k => F k ∧ k < w.heap.size) w v l := by
  obtain ⟨vs, D, h1, h2, h3, h4, h5⟩ := h
  refine ⟨vs, _, h1, h2.lt, fun k hk => h3 k hk.1, fun k hk => (h4 k hk.1).imp (fun hf => ⟨hf, hk.2⟩) id, fun k hk => ⟨h5 k hk, (h1.lt k hk).2⟩⟩
theorem OwnL.ge {N : Nat} {F : Nat → Prop} {w : World} {v : Value} {l : List ι} (h : OwnL L N F w v l) : ∀ k, v.ownBlock = some k → N ≤ k ∧ k < w.heap.size := by
  obtain ⟨vs, D, h1, _⟩ := h
  exact fun k hk => h1.lt k hk
theorem OwnL.mono {N : Nat} {F G : Nat → Prop} {w : World} {v : Value} {l : List ι} (h : OwnL L N F w v l) (hG : ∀ k, F k → G k) : OwnL L N G w v l := by
  obtain ⟨vs, D, h1, h2, h3, h4, h5⟩ := h
  exact ⟨vs, D, h1, h2, h3, fun k hk => (h4 k hk).imp (hG k) id, fun k hk => hG k (h5 k hk)⟩
theorem OwnL.keep {N : Nat} {F : Nat → Prop} {w w' : World} {v : Value} {l : List ι} (h : OwnL L N F w v l) (hs : w.heap.size ≤ w'.heap.size) (hk : ∀ k, F k ∨ k < N → w'.heap[k]? = w.heap[k]?) : OwnL L N F w' v l := by
  obtain ⟨vs, D, h1, h2, h3, h4, h5⟩ := h
  refine ⟨vs, D, ?_, h2.keep fun k hd => hk k (h4 k hd), h3, h4, h5⟩
  refine ⟨h1.1, h1.2.imp id ?_⟩
  rintro ⟨g, cap, cur, rfl, hg, hh, r⟩
  exact ⟨g, cap, cur, rfl, hg, (hk g (.inl (h5 g rfl))).trans hh, r⟩
theorem OwnL.shape {N : Nat} {F : Nat → Prop} {w : World} {v : Value} {l : List ι} (h : OwnL L N F w v l) : ∃ A c, v = .slice A l.length c ∧ l.length ≤ c ∧ c ≤ 9223372036854775807 := by
  obtain ⟨vs, D, h1, _⟩ := h
  rcases h1.2 with ⟨rfl, h⟩ | ⟨g, cap, cur, rfl, _, _, h1, h2, _⟩
  · exact ⟨none, 0, by rw [h], by omega, by omega⟩
  · exact ⟨_, cap, rfl, h1, by unfold maxLen at h2; omega⟩

/-- A list that is read: its cells lie in a block of F. -/
structure RdL (L : Lay ι) (F : Nat → Prop) (w : World) (A : Option Addr) (c : Nat) (l : List ι) : Prop where
  le : l.length ≤ c
  cap : c ≤ 9223372036854775807
  cells : 0 < l.length → ∃ b off vs, A = some ⟨b, off, none⟩ ∧ F b ∧ Vs L F w l vs ∧ ∀ i, i < l.length * L.sz → w.cell? ⟨b, off + i, none⟩ = vs[i]?
theorem RdL.mono {F G : Nat → Prop} {w : World} {A : Option Addr} {c : Nat} {l : List ι} (h : RdL L F w A c l) (hG : ∀ k, F k → G k) : RdL L G w A c l := ⟨h.le, h.cap, fun hn => by
  obtain ⟨b, off, vs, e, h1, h2, h3⟩ := h.cells hn
  exact ⟨b, off, vs, e, hG b h1, h2.mono hG, h3⟩⟩
theorem RdL.keep {F : Nat → Prop} {w w' : World} {A : Option Addr} {c : Nat} {l : List ι} (h : RdL L F w A c l) (hk : ∀ k, F k → w'.heap[k]? = w.heap[k]?) : RdL L F w' A c l := ⟨h.le, h.cap, fun hn => by
  obtain ⟨b, off, vs, e, h1, h2, h3⟩ := h.cells hn
  exact ⟨b, off, vs, e, h1, h2.keep hk, fun i hi => (World.cell?_of_block (hk b h1)).trans (h3 i hi)⟩⟩
theorem OwnL.rdl {N : Nat} {F : Nat → Prop} {w : World} {v : Value} {l : List ι} (h : OwnL L N F w v l) : ∃ A c, v = .slice A l.length c ∧ RdL L (fun k => F k ∨ k < N) w A c l := by
  obtain ⟨vs, D, h1, h2, h3, h4, h5⟩ := h
  rcases h1.2 with ⟨rfl, h⟩ | ⟨g, cap, cur, rfl, hg, hh, hle, hmx, hcs, ht⟩
  · exact ⟨none, 0, by rw [h], by omega, by omega, fun hn => by omega⟩
  · refine ⟨_, cap, rfl, hle, by unfold maxLen at hmx; omega, fun hn => ⟨g, 0, vs, rfl, .inl (h5 g rfl), h2.mono h4, fun i hi => ?_⟩⟩
    rw [Nat.zero_add, cell_of_row w g i cur L.ty (0, 0) hh, ← ht, List.getElem?_take, if_pos hi, Array.getElem?_toList]

/-- append of one element to a list in a row of its own. -/
theorem OwnL.append {P : Program} {N : Nat} {F : Nat → Prop} {w : World} {v : Value} {l : List ι} (h : OwnL L N F w v l) {t ty : TypeId} (ht : P.underlying t = some (.slice L.ty)) {z : Value} {by_ : Nat}
    (hinf : (P.info? L.ty).map (fun i => (i.zero, i.size, i.bytes)) = some (some z, L.sz, by_)) (hz : z.cells.size = L.sz) (hpos : 0 < L.sz) (hby : by_ ≤ 100) (s : ι) (A : Option Addr) (c : Nat) {G : Nat → Prop} (hr : RdS G w A c (L.fd s)) (hG : ∀ k, G k → v.ownBlock ≠ some k)
    (g1 : Nat) (hc : w.heap[g1]? = some (.cells (L.fc s A c).toArray L.ty (0, 0))) (hl : l.length ≤ 1000000) (hN : N ≤ w.heap.size) :
    ∃ v' w', (Builtin.append_ #[t, t] ty #[v, .slice (some ⟨g1, 0, none⟩) 1 1]).run P w = .ok v' w' ∧ OwnL L N (fun k => F k ∨ G k ∨ (w.heap.size ≤ k ∧ k < w'.heap.size)) w' v' (l ++ [s]) ∧ w.grownBy w' v.ownBlock ∧
      (v'.ownBlock = v.ownBlock ∨ v'.ownBlock = some w.heap.size) := by
  obtain ⟨vs, D, h1, h2, h3, h4, h5⟩ := h
  obtain ⟨i0, hi, hz0, hz1, hz2⟩ := info_parts hinf
  obtain ⟨v', w', e0, e1, e2, _, e4⟩ := run_append_own_at (P := P) w N t ty L.ty i0 z L.sz by_ ht hi hz0 hz1 hz2 hz hpos v l.length vs h1 ⟨g1, 0, none⟩ 1 1 (L.fc s A c) (by rw [L.len]; omega)
    (fun j u hj => by
      rw [Go.WideShapes.add_plain, Nat.zero_add, cell_of_row w g1 j _ L.ty (0, 0) hc]
      simpa using hj) (L.one s A c) (by unfold maxLen; omega) (by have : (l.length + 1) * by_ ≤ 1000001 * 100 := Nat.mul_le_mul (by omega) hby; omega) hN
  have hlt := h2.lt
  have hrl := hr.lt
  have hk1 : ∀ k, D k ∧ k < w.heap.size → w'.heap[k]? = w.heap[k]? := fun k hk => e2.block k hk.2 (fun e => h3 k hk.1 e.symm)
  have hk2 : ∀ k, G k ∧ k < w.heap.size → w'.heap[k]? = w.heap[k]? := fun k hk => e2.block k hk.2 (fun e => hG k hk.1 e.symm)
  refine ⟨v', w', e0, ⟨vs ++ L.fc s A c, fun k => (D k ∧ k < w.heap.size) ∨ (G k ∧ k < w.heap.size), by simpa using e1, Vs.snoc ((hrl.keep hk2).mono fun k hk => .inr hk) ((hlt.keep hk1).mono fun k hk => .inl hk), ?_, ?_, ?_⟩, e2, e4⟩
  · intro k hk
    have hlt : k < w.heap.size := hk.elim (·.2) (·.2)
    rcases e4 with e | e
    · rw [e]; exact hk.elim (fun h => h3 k h.1) (fun h => hG k h.1)
    · rw [e]; intro e'; injection e' with e'; omega
  · intro k hk
    rcases hk with hk | hk
    · exact (h4 k hk.1).imp .inl id
    · exact .inl (.inr (.inl hk.1))
  · intro k hk
    rcases e4 with e | e
    · exact .inl (h5 k (e.symm.trans hk))
    · rw [e] at hk
      injection hk with hk
      subst hk
      exact .inr (.inr ⟨Nat.le_refl _, (e1.lt _ e).2⟩)
end

/-- What holds of memory in the blocks of F, and below N. -/
structure Asr (N : Nat) where
  holds : (Nat → Prop) → World → Prop
  ge : ∀ {F w}, holds F w → ∀ k, F k → N ≤ k ∧ k < w.heap.size
  loc : ∀ {F w w'}, holds F w → w.heap.size ≤ w'.heap.size → (∀ k, F k ∨ k < N → w'.heap[k]? = w.heap[k]?) → holds F w'
theorem Asr.mv {N : Nat} {A : Asr N} {F S S' : Nat → Prop} {w w' : World} (h : A.holds F w) (hm : Mv S w S' w') (hd : ∀ k, F k → ¬ S k) (hS : ∀ k, S k → N ≤ k) (hN : N ≤ w.heap.size) : A.holds F w' :=
  A.loc h hm.size fun k hk => hk.elim (fun hf => hm.keep k (A.ge h k hf).2 (hd k hf)) (fun hl => hm.keep k (by omega) fun hs => by have := hS k hs; omega)
theorem Asr.below {N : Nat} {A : Asr N} {F : Nat → Prop} {w w' : World} (h : A.holds F w) (hb : Below w.heap.size w w') (hN : N ≤ w.heap.size) : A.holds F w' :=
  A.loc h hb.size fun k hk => hb.block k (hk.elim (fun hf => (A.ge h k hf).2) (fun hl => by omega))
/-- Both, apart from each other. -/
def Asr.sep {N : Nat} (A B : Asr N) : Asr N where
  holds S w := ∃ F G, A.holds F w ∧ B.holds G w ∧ (∀ k, F k → ¬ G k) ∧ ∀ k, S k ↔ F k ∨ G k
  ge := fun ⟨F, G, h1, h2, _, h4⟩ k hk => ((h4 k).1 hk).elim (A.ge h1 k) (B.ge h2 k)
  loc := fun ⟨F, G, h1, h2, h3, h4⟩ hs hk => ⟨F, G, A.loc h1 hs fun k hf => hk k (hf.imp (fun h => (h4 k).2 (.inl h)) id), B.loc h2 hs fun k hf => hk k (hf.imp (fun h => (h4 k).2 (.inr h)) id), h3, h4⟩
/-- A step of the first one. -/
theorem Asr.sep_left {N : Nat} {A A' B : Asr N} {F G F' : Nat → Prop} {w w' : World} (h1 : A.holds F w) (h2 : B.holds G w) (hd : ∀ k, F k → ¬ G k) (h3 : A'.holds F' w') (hm : Mv F w F' w') (hN : N ≤ w.heap.size) :
    (A'.sep B).holds (fun k => F' k ∨ G k) w' ∧ Mv (fun k => F k ∨ G k) w (fun k => F' k ∨ G k) w' := by
  have hg : ∀ k, G k → k < w.heap.size ∧ ¬ F k := fun k hk => ⟨(B.ge h2 k hk).2, fun hf => hd k hf hk⟩
  exact ⟨⟨F', G, h3, Asr.mv h2 hm (fun k hk => (hg k hk).2) (fun k hk => (A.ge h1 k hk).1) hN, fun k hk hgk => (hm.new k hk).elim (fun hf => hd k hf hgk) (fun hle => by have := (hg k hgk).1; omega), fun _ => Iff.rfl⟩, hm.frame hg⟩
theorem Asr.sep_right {N : Nat} {A B B' : Asr N} {F G G' : Nat → Prop} {w w' : World} (h1 : A.holds F w) (h2 : B.holds G w) (hd : ∀ k, F k → ¬ G k) (h3 : B'.holds G' w') (hm : Mv G w G' w') (hN : N ≤ w.heap.size) :
    (A.sep B').holds (fun k => F k ∨ G' k) w' ∧ Mv (fun k => F k ∨ G k) w (fun k => F k ∨ G' k) w' := by
  have hg : ∀ k, F k → k < w.heap.size ∧ ¬ G k := fun k hk => ⟨(A.ge h1 k hk).2, hd k hk⟩
  have hf := hm.frame hg
  refine ⟨⟨F, G', Asr.mv h1 hm (fun k hk => (hg k hk).2) (fun k hk => (B.ge h2 k hk).1) hN, h3, fun k hk hgk => (hm.new k hgk).elim (fun h => hd k hk h) (fun hle => by have := (hg k hk).1; omega), fun _ => Iff.rfl⟩, ?_⟩
  exact ⟨hf.os, hf.tape, hf.output, hf.size, fun k hk hn => hf.keep k hk fun h => hn h.symm, fun k hk => (hf.new k hk.symm).imp Or.symm id⟩
/-- The footprint as a predicate may be written otherwise. -/
theorem Asr.sep_eq {N : Nat} {A B : Asr N} {S : Nat → Prop} {w : World} (h : (A.sep B).holds S w) : ∃ F G, A.holds F w ∧ B.holds G w ∧ (∀ k, F k → ¬ G k) ∧ S = fun k => F k ∨ G k := by
  obtain ⟨F, G, h1, h2, h3, h4⟩ := h
  exact ⟨F, G, h1, h2, h3, funext fun k => propext (h4 k)⟩

end Go.Proofs.YtgihpgdjkanodaaGreatDoor

namespace Go.Proofs.YtgihpgdjkanodaaGreatDoor
open Go Go.RowKit

/-- A packet that was sent: by the host or not, and its fault. -/
abbrev SentP := Pkt × Bool × Nat
abbrev pkL (p : Pkt) (A : Option Addr) (c : Nat) : List Value := [.int .u8 (p.pid : Int), .int .u8 (p.addr : Int), .int .u8 (p.endp : Int), .int .u16 (p.frame : Int), .int .u8 (p.hub : Int), .int .u8 (p.port : Int), .bool p.comp, .bool p.low, .int .u8 (p.kind : Int), .slice A p.data.length c]
abbrev snL (s : SentP) (A : Option Addr) (c : Nat) : List Value := [.int .u8 (s.1.pid : Int), .int .u8 (s.1.addr : Int), .int .u8 (s.1.endp : Int), .int .u16 (s.1.frame : Int), .int .u8 (s.1.hub : Int), .int .u8 (s.1.port : Int), .bool s.1.comp, .bool s.1.low, .int .u8 (s.1.kind : Int), .slice A s.1.data.length c, .bool s.2.1, .int .u8 (s.2.2 : Int)]
def layPk : Lay Pkt := ⟨82, 10, fun p A c => pkL p A c, fun p => p.data, fun _ _ _ => rfl, fun p A c v hv => by
  simp only [pkL, List.mem_cons, List.not_mem_nil, or_false] at hv
  rcases hv with rfl | rfl | rfl | rfl | rfl | rfl | rfl | rfl | rfl | rfl <;> rfl⟩
def laySn : Lay SentP := ⟨85, 12, fun s A c => snL s A c, fun s => s.1.data, fun _ _ _ => rfl, fun p A c v hv => by
  simp only [snL, List.mem_cons, List.not_mem_nil, or_false] at hv
  rcases hv with rfl | rfl | rfl | rfl | rfl | rfl | rfl | rfl | rfl | rfl | rfl | rfl <;> rfl⟩
theorem infSn : (Tryz.prog.info? 85).map (fun i => (i.zero, i.size, i.bytes)) = some (some (.agg #[.int .u8 0, .int .u8 0, .int .u8 0, .int .u16 0, .int .u8 0, .int .u8 0, .bool false, .bool false, .int .u8 0, .slice none 0 0, .bool false, .int .u8 0]), 12, 48) := by kernel_rfl
theorem infPk : (Tryz.prog.info? 82).map (fun i => (i.zero, i.size, i.bytes)) = some (some (.agg #[.int .u8 0, .int .u8 0, .int .u8 0, .int .u16 0, .int .u8 0, .int .u8 0, .bool false, .bool false, .int .u8 0, .slice none 0 0]), 10, 40) := by kernel_rfl

/-- Block b holds the list of what was sent. -/
def snA (N b : Nat) (l : List SentP) : Asr N where
  holds F w := (∃ v, w.heap[b]? = some (.cells #[v] 31 (0, 0)) ∧ OwnL laySn 0 (fun k => F k ∧ k ≠ b) w v l) ∧ F b ∧ ∀ k, F k → N ≤ k ∧ k < w.heap.size
  ge := fun h => h.2.2
  loc := fun ⟨⟨v, h1, h2⟩, h3, h4⟩ hs hk => ⟨⟨v, (hk _ (.inl h3)).trans h1, h2.keep hs fun k hh => hk k (hh.elim (fun h => .inl h.1) (fun h => by omega))⟩, h3, fun k hf => ⟨(h4 k hf).1, Nat.lt_of_lt_of_le (h4 k hf).2 hs⟩⟩

/-- append at the operation. -/
theorem wpl_appendL {ι : Type} {L : Lay ι} {P : Program} {ops : Array Oper} {rest : List Oper} {o : Oper} {a : Act} {Q : Exit → Act → World → Prop} {w : World} {N : Nat} {F : Nat → Prop} {v : Value} {l : List ι} (h : OwnL L N F w v l)
    {t : TypeId} (ht : P.underlying t = some (.slice L.ty)) {z : Value} {by_ : Nat} (hinf : (P.info? L.ty).map (fun i => (i.zero, i.size, i.bytes)) = some (some z, L.sz, by_)) (hz : z.cells.size = L.sz) (hpos : 0 < L.sz) (hby : by_ ≤ 100)
    (hgd : o.guard = none) (sl x : Operand) (ho : o.op = .call { callee := .builtin .append, args := #[sl, x], argTypes := #[t, t] }) (hs : a.eval sl = v) (s : ι) (A : Option Addr) (c : Nat) {G : Nat → Prop} (hr : RdS G w A c (L.fd s)) (hG : ∀ k, G k → v.ownBlock ≠ some k)
    (g1 : Nat) (hc : w.heap[g1]? = some (.cells (L.fc s A c).toArray L.ty (0, 0))) (hx : a.eval x = .slice (some ⟨g1, 0, none⟩) 1 1) (hl : l.length ≤ 1000000) (hN : N ≤ w.heap.size)
    (hk : ∀ A' c' w', OwnL L N (fun k => F k ∨ G k ∨ (w.heap.size ≤ k ∧ k < w'.heap.size)) w' (.slice A' (l ++ [s]).length c') (l ++ [s]) → w.grownBy w' v.ownBlock → wpList P ops Q rest (a.put o.dst (.slice A' (l ++ [s]).length c')) w') : wpList P ops Q (o :: rest) a w := by
  obtain ⟨v', w', e0, e1, e2, _⟩ := h.append (P := P) (ty := o.type) ht hinf hz hpos hby s A c hr hG g1 hc hl hN
  obtain ⟨A', c', rfl, _⟩ := e1.shape
  refine wpList_plain hgd fun K hK => ?_
  unfold Oper.wp execOp
  simp only [ho, resolve, invoke, builtin, Sem.run_bind, Sem.run_pure, Result.andThen_ok, List.map_toArray, List.map_cons, List.map_nil, hs, hx, e0]
  exact hK _ _ (hk A' c' w' e1 e2)

/-- An assertion holds behind a call that returns v, and nothing else has changed. -/
def Post {N : Nat} (A : Asr N) (S : Nat → Prop) (w : World) (v : Value) (e : Ending) (w' : World) : Prop := e = .returned v ∧ ∃ S', A.holds S' w' ∧ Mv S w S' w'

set_option maxHeartbeats 800000 in
set_option maxRecDepth 100000 in
theorem note_any (w : World) (N b : Nat) (l : List SentP) (F G : Nat → Prop) (h : (snA N b l).holds F w) (p : Pkt) (hb : Bool) (f : Nat) (A : Option Addr) (c : Nat) (hr : RdS G w A c p.data) (hG : ∀ k, G k → ¬ F k ∧ N ≤ k ∧ k < w.heap.size)
    (hl : l.length ≤ 1000000) (hN : N ≤ w.heap.size) :
    Calls Tryz.prog 64 #[.agg (snL (p, hb, f) A c).toArray, .pointer (some ⟨b, 0, none⟩)] w (Post (snA N b (l ++ [(p, hb, f)])) (fun k => F k ∨ G k) w (.tuple #[])) := by
  obtain ⟨⟨v, hv, ho⟩, hFb, hF⟩ := h
  obtain ⟨A0, c0, rfl, _, _⟩ := ho.shape
  obtain ⟨h0, h1, h2, h3⟩ := alloc2 w (.cells (snL (p, hb, f) A c).toArray 85) (.cells (snL (p, hb, f) A c).toArray 85)
  have hbl := block_lt hv
  have hv1 := (Below.heap_alloc w (.cells (snL (p, hb, f) A c).toArray 85) b hbl).trans hv
  have hv2 := Lib.hid ((h3.block b hbl).trans hv)
  have hne : some b ≠ (Value.slice A0 l.length c0).ownBlock := fun e => by
    obtain ⟨vs, D, _, _, _, _, h5⟩ := ho
    exact (h5 b e.symm).2 rfl
  have hG2 : ∀ k, G k → (Value.slice A0 l.length c0).ownBlock ≠ some k := fun k hk e => by
    obtain ⟨vs, D, _, _, _, _, h5⟩ := ho
    exact (hG k hk).1 (h5 k e).1
  have hge := Lib.hid ho.ge
  have hin : ∀ k, (Value.slice A0 l.length c0).ownBlock = some k → F k := fun k e => by
    obtain ⟨vs, D, _, _, _, _, h5⟩ := ho
    exact (h5 k e).1
  have ho2 := Lib.hid (ho.keep (w' := (w.alloc (.cells (snL (p, hb, f) A c).toArray 85)).alloc (.cells (snL (p, hb, f) A c).toArray 85)) h3.size fun k hk => h3.block k (hk.elim (fun hf => (hF k hf.1).2) (fun hl => by omega)))
  have hr2 := Lib.hid (hr.below h3)
  have hl' := Lib.hid hl
  have hN2 := Lib.hid (Nat.le_trans hN h3.size)
  have cb := block_at hv1 (i := 0) rfl
  have k0 := alloc1 w (.cells (snL (p, hb, f) A c).toArray 85)
  have H1 := Lib.hid h1
  have H2 := Lib.hid h2
  have H3 := Lib.hid h3
  have Hne := Lib.hid hne
  have HG2 := Lib.hid hG2
  have Hin := Lib.hid hin
  have HG := Lib.hid hG
  have HF := Lib.hid hF
  clear h0 h1 h2 h3 hr hl ho hv1 hne hG2 hin hG hF
  obtain ⟨p0, p1, p2, p3, p4, p5, p6, p7, p8, xs⟩ := p
  simp only [snL] at *
  have K0 := Lib.hid k0
  clear k0
  go_enter Tryz.func64, Tryz.ntmps64
  go_wp2_with (first | (refine wpl_loadB flatSent rfl (.tmp 2) rfl _ rfl K0.out rfl ?_) |
    (at_builtin; refine wpl_appendL ho2.out Tryz.underlying31 infSn rfl (by decide) (by decide) rfl (.tmp 3) (.tmp 5) rfl rfl (⟨p0, p1, p2, p3, p4, p5, p6, p7, p8, xs⟩, hb, f) A c hr2.out HG2.out (w.heap.size + 1) H1.out rfl hl'.out (Nat.zero_le _) ?_
     intro A' c' w' ho3 hg3
     have kb := grown_block hg3 hv2.out Hne.out
     have cb2 := block_at kb (i := 0) rfl
     have fb2 := block_free kb 0
     replace ho3 := Lib.hid ho3
     replace hg3 := Lib.hid hg3
     replace kb := Lib.hid kb
     generalize hn : (l ++ [((⟨p0, p1, p2, p3, p4, p5, p6, p7, p8, xs⟩ : Pkt), hb, f)]).length = n3 at ho3 ⊢
     replace hn := Lib.hid hn))
  go_end0
  have hs2 := H2.out
  have hs3 := hg3.out.size
  have hs4 : (w'.setCell ⟨b, 0, none⟩ (.slice A' n3 c')).heap.size = w'.heap.size := by simp [World.setCell]
  have hoth : ∀ k, k ≠ b → (w'.setCell ⟨b, 0, none⟩ (.slice A' n3 c')).heap[k]? = w'.heap[k]? := fun k hk => Below.heap_setCell w' ⟨b, 0, none⟩ _ k hk
  have hNb := (HF.out b hFb).1
  refine ⟨rfl, fun k => F k ∨ G k ∨ (w.heap.size ≤ k ∧ k < w'.heap.size), ⟨⟨.slice A' n3 c', ?_, ?_⟩, .inl hFb, fun k hk => ?_⟩, ?_⟩
  · have := block_set kb.out 0 (.slice A' n3 c')
    simpa using this
  · rw [← hn.out] at ho3 ⊢
    refine ((ho3.out.mono (G := fun k => (F k ∨ G k ∨ (w.heap.size ≤ k ∧ k < w'.heap.size)) ∧ k ≠ b) fun k hk => ?_).keep (by rw [hn.out, hs4]; exact Nat.le_refl _) fun k hk => ?_)
    · rcases hk with hk | hk | hk
      · exact ⟨.inl hk.1, hk.2⟩
      · exact ⟨.inr (.inl hk), fun e => (HG.out k hk).1 (e ▸ hFb)⟩
      · exact ⟨.inr (.inr ⟨by omega, hk.2⟩), by omega⟩
    · rw [hn.out]
      exact hoth k (hk.elim (·.2) (fun h => by omega))
  · rw [hs4]
    rcases hk with hk | hk | hk
    · have := HF.out k hk; omega
    · have := HG.out k hk; omega
    · omega
  · refine ⟨hg3.out.os.trans H3.out.os, hg3.out.tape.trans H3.out.tape, hg3.out.output.trans H3.out.output, by rw [hs4]; omega, fun k hk hn => ?_, fun k hk => ?_⟩
    · rw [hoth k (fun e => hn (.inl (e ▸ hFb))), hg3.out.block k (by omega) (fun e => hn (.inl (Hin.out k e.symm))), H3.out.block k hk]
    · rcases hk with hk | hk | hk
      · exact .inl (.inl hk)
      · exact .inl (.inr hk)
      · exact .inr hk.1

/-- What has been sent, behind a call of the second closure: the list, and what it lies in. -/
def PostL (N : Nat) (F : Nat → Prop) (l : List SentP) (w : World) (e : Ending) (w' : World) : Prop :=
  ∃ A c, e = .returned (.slice A l.length c) ∧ RdL laySn F w' A c l ∧ w = w'
theorem sclip_any (w : World) (A : Option Addr) (n c : Nat) (hle : n ≤ c) (hcap : c ≤ 9223372036854775807) : Calls Tryz.prog 66 #[.slice A n c] w fun e w' => e = .returned (.slice A n n) ∧ w = w' := by
  go_enter Tryz.func66, Tryz.ntmps66
  go_wp2
  go_ret
  exact ⟨rfl, rfl⟩
set_option maxRecDepth 100000 in
theorem sent_any (w : World) (N b : Nat) (l : List SentP) (F : Nat → Prop) (h : (snA N b l).holds F w) :
    Calls Tryz.prog 65 #[.pointer (some ⟨b, 0, none⟩)] w (PostL N F l w) := by
  obtain ⟨⟨v, hv, ho⟩, hFb, hF⟩ := h
  obtain ⟨A0, c0, rfl, hr⟩ := ho.rdl
  have cb := block_at hv (i := 0) rfl
  have hle := hr.le
  have hcap := hr.cap
  have hr2 := Lib.hid (hr.mono (G := F) fun k hk => hk.elim (·.1) (fun h => by omega))
  clear hr ho hF hv
  go_enter Tryz.func65, Tryz.ntmps65
  go_wp2_with fail
  refine (sclip_any _ A0 l.length c0 hle hcap).mono ?_
  rintro e w1 ⟨rfl, rfl⟩
  go_wp2
  go_ret
  exact ⟨A0, l.length, rfl, ⟨Nat.le_refl _, by omega, hr2.out.cells⟩, rfl⟩

end Go.Proofs.YtgihpgdjkanodaaGreatDoor

namespace Go.Proofs.YtgihpgdjkanodaaGreatDoor
open Go Go.RowKit

/-- Block b is a line whose faults are still fs. -/
def lineA (N b : Nat) (fs : List UInt8) : Asr N where
  holds F w := (∃ A c, w.heap[b]? = some (.cells #[.slice A fs.length c] 115 (0, 0)) ∧ RdS (fun k => F k ∧ k ≠ b) w A c fs) ∧ F b ∧ ∀ k, F k → N ≤ k ∧ k < w.heap.size
  ge := fun h => h.2.2
  loc := fun ⟨⟨A, c, h1, h2⟩, h3, h4⟩ hs hk => ⟨⟨A, c, (hk _ (.inl h3)).trans h1, h2.keep fun k hh => hk k (.inl hh.1)⟩, h3, fun k hf => ⟨(h4 k hf).1, Nat.lt_of_lt_of_le (h4 k hf).2 hs⟩⟩
/-- No wire, or one of which nothing is needed. -/
def noA (N : Nat) : Asr N where
  holds F _ := ∀ k, ¬ F k
  ge := fun h k hk => absurd hk (h k)
  loc := fun h _ _ => h
def lineN (fs : List UInt8) : List UInt8 × Nat := (fs.drop 1, (fs.getD 0 0).toNat)

theorem sliceF_from (A : Option Addr) (n c : Nat) (l : Int) (W : World) (h0 : 0 ≤ l) (h1 : l ≤ n) : (Instr.slice 61 (.slice A n c) (some (.int .i64 l)) none none).run Tryz.prog W = .ok (sliced A l.toNat n c 1) W := by
  have hs : (sizeOf (Tryz.prog.elem 61)).run Tryz.prog W = .ok 1 W := by kernel_rfl
  rw [run_slice_l W 61 A n c (by kernel_rfl) .i64 l h0 h1, hs]
  rfl
theorem RdS.from_ {F : Nat → Prop} {w : World} {c : Nat} {A : Option Addr} {xs : List UInt8} (h : RdS F w A c xs) {k : Nat} (hk : k ≤ xs.length) : ∃ A' c', sliced A k xs.length c 1 = .slice A' (xs.drop k).length c' ∧ RdS F w A' c' (xs.drop k) := by
  have hle := h.le
  have hcap := h.cap
  refine ⟨if c = k then A else A.map (·.add k), c - k, by simp [sliced], by rw [List.length_drop]; omega, by omega, fun hn => ?_⟩
  rw [List.length_drop] at hn
  obtain ⟨b, off, rfl, hb, hc⟩ := h.cells (by omega)
  rw [if_neg (by omega)]
  refine ⟨b, off + k, by simp [Go.WideShapes.add_plain], hb, fun j hj => ?_⟩
  rw [List.length_drop] at hj
  have := hc (k + j) (by omega)
  rw [Nat.add_assoc, this]
  simp [List.getD, List.getElem?_drop]

theorem left_core (w : World) (b n c : Nat) (A : Option Addr) (h : w.heap[b]? = some (.cells #[.slice A n c] 115 (0, 0))) :
    Calls Tryz.prog 154 #[.pointer (some ⟨b, 0, none⟩)] w fun e w' => e = .returned (.int .i64 (n : Int)) ∧ w = w' := by
  have c0 := block_at h (i := 0) rfl
  clear h
  go_enter Tryz.func154, Tryz.ntmps154
  go_wp2
  go_ret
  exact ⟨rfl, rfl⟩
theorem left_nil (w : World) : Calls Tryz.prog 154 #[.pointer none] w fun e w' => e = .returned (.int .i64 0) ∧ w = w' := by
  go_enter Tryz.func154, Tryz.ntmps154
  go_wp2
  go_ret
  exact ⟨rfl, rfl⟩
theorem next_nil (w : World) : Calls Tryz.prog 155 #[.pointer none] w fun e w' => e = .returned (.int .u8 0) ∧ w = w' := by
  go_enter Tryz.func155, Tryz.ntmps155
  go_wp2_with fail
  refine (left_nil w).mono ?_
  rintro e w1 ⟨rfl, rfl⟩
  go_wp2
  go_ret
  exact ⟨rfl, rfl⟩
set_option maxRecDepth 100000 in
theorem next_zero (w : World) (b c : Nat) (A : Option Addr) (h : w.heap[b]? = some (.cells #[.slice A 0 c] 115 (0, 0))) :
    Calls Tryz.prog 155 #[.pointer (some ⟨b, 0, none⟩)] w fun e w' => e = .returned (.int .u8 0) ∧ w = w' := by
  have K := Lib.hid (left_core w b 0 c A h)
  clear h
  go_enter Tryz.func155, Tryz.ntmps155
  go_wp2_with fail
  refine K.out.mono ?_
  rintro e w1 ⟨rfl, rfl⟩
  go_wp2
  go_ret
  exact ⟨rfl, rfl⟩
set_option maxRecDepth 100000 in
theorem next_more (w : World) (b n m c c' off g : Nat) (A' : Option Addr) (x : UInt8) (h : w.heap[b]? = some (.cells #[.slice (some ⟨g, off, none⟩) n c] 115 (0, 0))) (hn : 0 < n) (hx : w.cell? ⟨g, off, none⟩ = some (bv x))
    (hcut : sliced (some ⟨g, off, none⟩) 1 n c 1 = .slice A' m c') (hle : n ≤ c) (hcap : c ≤ 9223372036854775807) :
    Calls Tryz.prog 155 #[.pointer (some ⟨b, 0, none⟩)] w fun e w' => e = .returned (bv x) ∧ w' = w.setCell ⟨b, 0, none⟩ (.slice A' m c') := by
  have K := Lib.hid (left_core w b n c _ h)
  have c0 := block_at h (i := 0) rfl
  have f0 := block_free h 0
  have hsx := fun W : World => sliceF_from (some ⟨g, off, none⟩) n c 1 W (by omega) (by omega)
  rw [show (1 : Int).toNat = 1 from rfl, hcut] at hsx
  have hi : ((n : Int) == 0) = false := beq_eq_false_iff_ne.2 (by omega)
  have hi2 : (0 : Int) < (n : Int) := by omega
  clear hcut h hn
  go_enter Tryz.func155, Tryz.ntmps155
  go_wp2_with fail
  refine K.out.mono ?_
  rintro e w1 ⟨rfl, rfl⟩
  go_wp2
  go_ret
  exact ⟨rfl, rfl⟩

/-- Behind a call of a wire: the fault, and what holds of the wire. -/
theorem next_any (w : World) (N b : Nat) (fs : List UInt8) (F : Nat → Prop) (h : (lineA N b fs).holds F w) :
    Calls Tryz.prog 155 #[.pointer (some ⟨b, 0, none⟩)] w (Post (lineA N b (fs.drop 1)) F w (.int .u8 ((fs.getD 0 0).toNat : Int))) := by
  obtain ⟨⟨A, c, h1, h2⟩, h3, h4⟩ := h
  rcases Nat.eq_zero_or_pos fs.length with h0 | h0
  · have hf : fs = [] := List.eq_nil_of_length_eq_zero h0
    subst hf
    exact (next_zero w b c A h1).mono fun e w' ⟨e1, e2⟩ => ⟨e1, F, by subst e2; exact ⟨⟨A, c, h1, h2⟩, h3, h4⟩, by subst e2; exact Mv.refl _ _⟩
  · obtain ⟨g, off, rfl, hg, hc⟩ := h2.cells h0
    obtain ⟨A', c', hcut, hr⟩ := h2.from_ (k := 1) (by omega)
    have hx := hc 0 h0
    rw [Nat.add_zero] at hx
    refine (next_more w b fs.length _ c c' off g A' _ h1 h0 hx hcut h2.le h2.cap).mono ?_
    rintro e w' ⟨rfl, rfl⟩
    have hoth : ∀ k, k ≠ b → (w.setCell ⟨b, 0, none⟩ (.slice A' (fs.drop 1).length c')).heap[k]? = w.heap[k]? := fun k hk => Below.heap_setCell w ⟨b, 0, none⟩ _ k hk
    refine ⟨rfl, F, ⟨⟨A', c', ?_, hr.keep fun k hk => hoth k hk.2⟩, h3, fun k hk => by simpa [World.setCell] using h4 k hk⟩, (Mv.refl F w).setCell (p := ⟨b, 0, none⟩) h3 _⟩
    have := block_set h1 0 (.slice A' (fs.drop 1).length c')
    simpa using this

/-- A wire as the host holds it. -/
structure WireOK {N : Nat} {τ : Type} (W : τ → Asr N) (next : τ → τ × Nat) (wv : Value) : Prop where
  lt : ∀ t, (next t).2 < 256
  fault : ∀ (dv nv : Value) (w : World) (t : τ) (F : Nat → Prop), (W t).holds F w → N ≤ w.heap.size →
    Calls Tryz.prog 86 #[.agg #[dv, wv, nv]] w (Post (W (next t).1) F w (.int .u8 ((next t).2 : Int)))

theorem isNil_wire (w : World) (T : Nat) (v : Value) : (binOp .eql 36 (.iface T v) .nilIface).run Tryz.prog w = .ok (.bool false) w := by kernel_rfl
theorem isNil_dev (w : World) (T : Nat) (v : Value) : (binOp .eql 34 (.iface T v) .nilIface).run Tryz.prog w = .ok (.bool false) w := by kernel_rfl
theorem isNil_wire0 (w : World) : (binOp .eql 36 .nilIface .nilIface).run Tryz.prog w = .ok (.bool true) w := by kernel_rfl
theorem isNil_dev0 (w : World) : (binOp .eql 34 .nilIface .nilIface).run Tryz.prog w = .ok (.bool true) w := by kernel_rfl

set_option maxRecDepth 100000 in
theorem fault_nil (N : Nat) : WireOK (fun _ : Unit => noA N) (fun t => (t, 0)) .nilIface := ⟨fun _ => by show (0 : Nat) < 256; omega, fun dv nv w t F hF hN => by
  have q := isNil_wire0
  have hb := Lib.hid ((Below.refl w.heap.size w).alloc (Nat.le_refl _) (.cells #[dv, .nilIface, nv] 127))
  go_enter Tryz.func86, Tryz.ntmps86
  go_wp2
  go_ret
  exact ⟨rfl, F, hF, Mv.of_below _ hb.out⟩⟩

set_option maxRecDepth 100000 in
theorem fault_line (N b : Nat) : WireOK (lineA N b) lineN (.iface 59 (.pointer (some ⟨b, 0, none⟩))) := ⟨fun t => by show (t.getD 0 0).toNat < 256; exact UInt8.toNat_lt _, fun dv nv w t F hF hN => by
  have q := isNil_wire
  have hm : ∀ (a : Addr) (w : World), (method 315 59 (.pointer (some a)) "Next").run Tryz.prog w = .ok (155, .pointer (some a)) w := fun _ _ => by kernel_rfl
  have K := Lib.hid fun W hW => next_any W N b t F hW
  have hb := Lib.hid ((Below.refl w.heap.size w).alloc (Nat.le_refl _) (.cells #[dv, (.iface 59 (.pointer (some ⟨b, 0, none⟩))), nv] 127))
  have hF2 := Lib.hid (Asr.below hF hb.out hN)
  clear hF
  go_enter Tryz.func86, Tryz.ntmps86
  go_wp2_with fail
  refine (K.out _ hF2.out).mono ?_
  rintro e w1 ⟨rfl, F1, h1, h2⟩
  clear hm
  generalize hn : ((t.getD 0 0).toNat : Int) = n
  have Hn := Lib.hid hn
  clear hn
  go_wp2
  go_ret
  refine ⟨?_, F1, h1, (Mv.of_below _ hb.out).trans h2⟩
  show _ = Ending.returned (.int .u8 ((t.getD 0 0).toNat : Int))
  rw [Hn.out]
  rfl⟩

end Go.Proofs.YtgihpgdjkanodaaGreatDoor

