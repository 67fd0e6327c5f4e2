/-
  Helper text: the walk of the law SpeedsSent; no statement is proved here.
-/
import Derived.Test.YtkmjemaajgdoiaaDoorRefS
import Derived.Test.YtkmjemaajgdoiaaDoorLine3
import Derived.Test.YtkmjemaajgdoiaaDoorPkt2
namespace Go.Proofs.YtkmjemaajgdoiaaDoor
open Go Go.RowKit

/-- A packet that can be sent, with its data. -/
def PkOk (W : World) (x : Rg × List UInt8) : Prop := x.1.Ok ∧ errR x.1 x.2 = 0 ∧ ∃ A c, x.1.data = .slice A x.2.length c ∧ Rd W W.heap.size A c x.2
/-- A block that holds packets. -/
def PkAt (W : World) (g : Nat) (ps : List (Rg × List UInt8)) : Prop := ∀ k j, k < ps.length → j < 10 → W.cell? ⟨g, k * 10 + j, none⟩ = (pcells (ps.getD k (bare 0, [])).1)[j]?
/-- How long packets last, with their gaps. -/
def lenL (x : Rg × List UInt8) : Nat := (Lv.sendL (encL x.1 x.2)).length + 8
def sumS (ps : List (Rg × List UInt8)) : Nat := (ps.map lenL).sum
theorem sumS_snoc (ps : List (Rg × List UInt8)) {k : Nat} (h : k < ps.length) : sumS (ps.take (k + 1)) = sumS (ps.take k) + lenL (ps.getD k (bare 0, [])) := by
  have e : ps.take (k + 1) = ps.take k ++ [ps.getD k (bare 0, [])] := by
    rw [List.take_add_one, List.getElem?_eq_getElem h]
    simp [List.getD, List.getElem?_eq_getElem h]
  unfold sumS
  rw [e]
  simp only [List.map_append, List.sum_append, List.map_cons, List.map_nil, List.sum_cons, List.sum_nil, Nat.add_zero]
theorem lenL_le (x : Rg × List UInt8) (n : Nat) (h : (encL x.1 x.2).length = n) : lenL x ≤ worstN n + 8 := by
  have := Lv.sendL_most (encL x.1 x.2)
  rw [h] at this
  unfold lenL
  omega

theorem block_at {w : World} {g t i : Nat} {cs : Array Value} {v : Value} (h : w.heap[g]? = some (.cells cs t (0, 0))) (hv : cs[i]? = some v) : w.cell? ⟨g, i, none⟩ = some v := by
  rw [cell_of_row w g i cs t (0, 0) h]; exact hv
theorem PkOk.below {W W' : World} {x : Rg × List UInt8} (h : PkOk W x) (hb : Below W.heap.size W W') : PkOk W' x := by
  obtain ⟨h1, h2, A, c, h3, h4⟩ := h
  exact ⟨h1, h2, A, c, h3, h4.belowTop hb⟩
/-- The three packets of a transaction. -/
def rTok (a b : Nat) (A : Option Addr) (c : Nat) : Rg := ⟨9, a, b, 0, 0, 0, false, false, 0, .slice A 0 c, 0⟩
def rDat (A : Option Addr) (n c : Nat) : Rg := ⟨3, 0, 0, 0, 0, 0, false, false, 0, .slice A n c, 0⟩
def rAck : Rg := ⟨2, 0, 0, 0, 0, 0, false, false, 0, .slice none 0 0, 0⟩
theorem enc_tok (a b : Nat) (A : Option Addr) (c : Nat) : (encL (rTok a b A c) []).length = 3 := by
  show (contentL _ _).length + 1 = 3
  unfold contentL
  rw [show isD (rTok a b A c).pid = false from rfl]
  show (bytesN _ _).length + 1 = 3
  rw [bytesN_len]
  show nbytes (fieldsL 9) + 1 = 3
  decide +kernel
theorem enc_data (A : Option Addr) (c : Nat) (xs : List UInt8) : (encL (rDat A xs.length c) xs).length = xs.length + 3 := by
  show (contentL _ _).length + 1 = _
  unfold contentL
  rw [show isD (rDat A xs.length c).pid = true from rfl]
  show (Ck.addL xs).length + 1 = _
  rw [Ck.addL_len]
theorem enc_ack : (encL rAck []).length = 1 := by decide +kernel
theorem fit_errS {r : Rg} (ok : r.Ok) {xs : List UInt8} (h : Fit r xs) (hl : xs.length ≤ 1024) : errR r xs = 0 := by
  unfold errR
  rw [if_pos ⟨fit_known h, (fit_of_fitB r ok xs (fit_known h)).2 h⟩, if_pos hl]
theorem ok_tok (a b : Nat) (ha : a < 128) (hb : b < 16) (A : Option Addr) (c : Nat) (W : World) (hc : c ≤ 9223372036854775807) : PkOk W (rTok a b A c, []) := by
  have ok : (rTok a b A c).Ok := ⟨by show 9 < 256; decide, by show a < 256; omega, by show b < 256; omega, by show 0 < 65536; decide, by show 0 < 256; decide, by show 0 < 256; decide, by show 0 < 256; decide, by show 0 < 4294967296; decide⟩
  exact ⟨ok, fit_errS ok (.tok (.inr (.inl rfl)) ha hb rfl rfl rfl rfl rfl rfl rfl) (by simp), A, c, rfl, Rd.empty hc⟩
theorem ok_dat (A : Option Addr) (c : Nat) (xs : List UInt8) (hl : xs.length ≤ 1024) (W : World) (hr : Rd W W.heap.size A c xs) : PkOk W (rDat A xs.length c, xs) := by
  have ok : (rDat A xs.length c).Ok := ⟨by show 3 < 256; decide, by show 0 < 256; decide, by show 0 < 256; decide, by show 0 < 65536; decide, by show 0 < 256; decide, by show 0 < 256; decide, by show 0 < 256; decide, by show 0 < 4294967296; decide⟩
  exact ⟨ok, fit_errS ok (.data (.inl rfl) rfl rfl rfl rfl rfl rfl rfl rfl) hl, A, c, rfl, hr⟩
theorem ok_ack (W : World) : PkOk W (rAck, []) := by
  have ok : rAck.Ok := ⟨by decide, by decide, by decide, by decide, by decide, by decide, by decide, by decide⟩
  refine ⟨ok, ?_, none, 0, rfl, Rd.nil _ _⟩
  decide +kernel
theorem flatP_at (ps : List (Rg × List UInt8)) : ∀ k j, k < ps.length → j < 10 → (ps.flatMap fun x => (pcells x.1).toList)[k * 10 + j]? = (pcells (ps.getD k (bare 0, [])).1)[j]? := by
  induction ps with
  | nil => intro k j h; simp at h
  | cons x ps ih =>
    intro k j hk hj
    rw [List.flatMap_cons]
    have hl : (pcells x.1).toList.length = 10 := rfl
    cases k with
    | zero =>
      rw [List.getElem?_append_left (by rw [hl]; omega), Array.getElem?_toList]
      simp
    | succ k =>
      rw [List.getElem?_append_right (by rw [hl]; omega), hl, show (k + 1) * 10 + j - 10 = k * 10 + j by omega, ih k j (by simpa using hk) hj]
      simp
theorem pkAt_own {w : World} {base t : Nat} {v : Value} (ps : List (Rg × List UInt8)) (h : w.ownsRow base t 10 v ps.length (ps.flatMap fun x => (pcells x.1).toList)) (hn : 0 < ps.length) :
    ∃ g cap, v = .slice (some ⟨g, 0, none⟩) ps.length cap ∧ ps.length ≤ cap ∧ g < w.heap.size ∧ PkAt w g ps := by
  obtain ⟨_, h2⟩ := h
  rcases h2 with ⟨_, h0⟩ | ⟨g, cap, cur, rfl, _, hh, hle, hm, hcs, ht⟩
  · omega
  · refine ⟨g, cap, rfl, hle, lt_of_block hh, fun k j hk hj => ?_⟩
    rw [cell_of_row w g (k * 10 + j) cur t (0, 0) hh, ← flatP_at ps k j hk hj, ← ht, List.getElem?_take, if_pos (by omega), Array.getElem?_toList]
theorem Tryd.info40 : (Tryd.prog.info? 40).map (fun i => (i.zero, i.size, i.bytes)) = some (some (.agg #[.int .u8 0, .int .u8 0, .int .u8 0, .int .u16 0, .int .u8 0, .int .u8 0, .bool false, .bool false, .int .u8 0, .slice none 0 0]), 10, 40) := by kernel_rfl
theorem own_baseN {w : World} {base base' t size : Nat} {v : Value} {n : Nat} {vs : List Value} (h : w.ownsRow base t size v n vs) (hb : base' ≤ base) : w.ownsRow base' t size v n vs := by
  obtain ⟨h1, h2⟩ := h
  rcases h2 with h2 | ⟨g, cap, cur, hv, hg, r⟩
  · exact ⟨h1, .inl h2⟩
  · exact ⟨h1, .inr ⟨g, cap, cur, hv, Nat.le_trans hb hg, r⟩⟩
theorem news_at (W : World) (t : TypeId) (news : List Value) : ∀ j u, news[j]? = some u → (W.alloc (.cells news.toArray t)).cell? ((⟨W.heap.size, 0, none⟩ : Addr).add j) = some u := by
  intro j u h
  rw [Go.WideShapes.add_plain, cell_of_row _ _ _ _ _ _ (heap_alloc_new W (.cells news.toArray t)), Nat.zero_add]
  simpa using h
/-- What the law file's Packet makes of a token, and of data. -/
def TokRes (W : World) (a b : Nat) (e : Ending) (W' : World) : Prop := ∃ A c, e = .returned (.agg #[.int .u8 9, .int .u8 (a : Int), .int .u8 (b : Int), .int .u16 0, .int .u8 0, .int .u8 0, .bool false, .bool false, .int .u8 0, .slice A 0 c]) ∧ c ≤ 9223372036854775807 ∧ Below W.heap.size W W'
def DatRes (W : World) (xs : List UInt8) (e : Ending) (W' : World) : Prop := ∃ A c, e = .returned (.agg #[.int .u8 3, .int .u8 0, .int .u8 0, .int .u16 0, .int .u8 0, .int .u8 0, .bool false, .bool false, .int .u8 0, .slice A xs.length c]) ∧ Rd W' W'.heap.size A c xs ∧ Below W.heap.size W W'
theorem tok_res (W : World) (a b fr fl : Nat) (ha : a < 256) (hb : b < 256) (A0 : Option Addr) (n0 c0 : Nat) : Calls Tryd.prog 9 #[.agg (xcells 6 a b fr fl (.slice A0 n0 c0))] W (TokRes W (a % 128) (b % 16)) := by
  refine (pkt_tok W 6 a b fr fl 6 (by omega) ha hb A0 n0 c0 (.inr (.inl rfl)) rfl rfl).mono ?_
  rintro e W' ⟨v, rfl, o, bl⟩
  obtain ⟨A, c, rfl, r⟩ := Rd.of_own o
  exact ⟨A, c, rfl, r.cap, bl⟩
theorem dat_res (W : World) (a b fr fl : Nat) (A : Option Addr) (c : Nat) (xs : List UInt8) (hx : Rd W W.heap.size A c xs) (hl : xs.length ≤ 1024) : Calls Tryd.prog 9 #[.agg (xcells 2 a b fr fl (.slice A xs.length c))] W (DatRes W xs) := by
  refine (pkt_data W 2 a b fr fl 2 (by omega) A c xs hx hl (.inl rfl) rfl rfl).mono ?_
  rintro e W' ⟨v, rfl, o, bl⟩
  obtain ⟨A, c, rfl, r⟩ := Rd.of_own o
  exact ⟨A, c, rfl, r, bl⟩

set_option maxHeartbeats 3200000 in
set_option maxRecDepth 100000 in
theorem lawSent_iso (w : World) (hL : Laid w) (hV : Lv.Laid w) (wt a b fr fl : Nat) (ha : a < 256) (hb : b < 256) (A0 : Option Addr) (n0 c0 : Nat)
    (wt2 a2 b2 fr2 fl2 : Nat) (A : Option Addr) (c : Nat) (xs : List UInt8) (hx : Rd w w.heap.size A c xs) (hl : xs.length ≤ 200) :
    Calls Tryd.prog 4 #[.agg (xcells wt a b fr fl (.slice A0 n0 c0)), .agg (xcells wt2 a2 b2 fr2 fl2 (.slice A xs.length c)), .bool true] w (ResB w true) := by
  have t1 : ¬ (200 : Int) < (xs.length : Int) := by omega
  have Hn1 : Hid (((w.alloc (.cells #[.int .u8 6, .int .u8 (a : Int), .int .u8 (b : Int), .int .u16 (fr : Int), .int .u8 (fl : Int), .slice A0 n0 c0] 34)).alloc (.cells #[.int .u8 2, .int .u8 (a2 : Int), .int .u8 (b2 : Int), .int .u16 (fr2 : Int), .int .u8 (fl2 : Int), .slice A xs.length c] 34)).drew.heap[w.heap.size]? = some (.cells #[.int .u8 6, .int .u8 (a : Int), .int .u8 (b : Int), .int .u16 (fr : Int), .int .u8 (fl : Int), .slice A0 n0 c0] 34)) := (Below.heap_alloc _ _ _ (lt_of_block (heap_alloc_new w (.cells #[.int .u8 6, .int .u8 (a : Int), .int .u8 (b : Int), .int .u16 (fr : Int), .int .u8 (fl : Int), .slice A0 n0 c0] 34)))).trans (heap_alloc_new w (.cells #[.int .u8 6, .int .u8 (a : Int), .int .u8 (b : Int), .int .u16 (fr : Int), .int .u8 (fl : Int), .slice A0 n0 c0] 34))
  have Hn2 : Hid (((w.alloc (.cells #[.int .u8 6, .int .u8 (a : Int), .int .u8 (b : Int), .int .u16 (fr : Int), .int .u8 (fl : Int), .slice A0 n0 c0] 34)).alloc (.cells #[.int .u8 2, .int .u8 (a2 : Int), .int .u8 (b2 : Int), .int .u16 (fr2 : Int), .int .u8 (fl2 : Int), .slice A xs.length c] 34)).drew.heap[w.heap.size + 1]? = some (.cells #[.int .u8 2, .int .u8 (a2 : Int), .int .u8 (b2 : Int), .int .u16 (fr2 : Int), .int .u8 (fl2 : Int), .slice A xs.length c] 34)) := by
    have h := heap_alloc_new (w.alloc (.cells #[.int .u8 6, .int .u8 (a : Int), .int .u8 (b : Int), .int .u16 (fr : Int), .int .u8 (fl : Int), .slice A0 n0 c0] 34)) (.cells #[.int .u8 2, .int .u8 (a2 : Int), .int .u8 (b2 : Int), .int .u16 (fr2 : Int), .int .u8 (fl2 : Int), .slice A xs.length c] 34)
    rw [show (w.alloc (.cells #[.int .u8 6, .int .u8 (a : Int), .int .u8 (b : Int), .int .u16 (fr : Int), .int .u8 (fl : Int), .slice A0 n0 c0] 34)).heap.size = w.heap.size + 1 by simp] at h
    exact h
  have Hb0 : Hid (Below w.heap.size w ((w.alloc (.cells #[.int .u8 6, .int .u8 (a : Int), .int .u8 (b : Int), .int .u16 (fr : Int), .int .u8 (fl : Int), .slice A0 n0 c0] 34)).alloc (.cells #[.int .u8 2, .int .u8 (a2 : Int), .int .u8 (b2 : Int), .int .u16 (fr2 : Int), .int .u8 (fl2 : Int), .slice A xs.length c] 34)).drew) := (((Below.refl w.heap.size w).alloc (Nat.le_refl _) _).alloc (by simp) _).drew
  obtain ⟨a', ha', ha7⟩ : ∃ a', a % 128 = a' ∧ a' < 128 := ⟨_, rfl, by omega⟩
  obtain ⟨b', hb', hb4'⟩ : ∃ b', b % 16 = b' ∧ b' < 16 := ⟨_, rfl, by omega⟩
  have KP1 := Lib.hid fun W => tok_res W a b fr fl ha hb A0 n0 c0
  rw [ha', hb'] at KP1
  have KP2 := Lib.hid fun W h => dat_res W a2 b2 fr2 fl2 A c xs h (by omega)
  have KL := Lib.hid lives_any
  have KC := Lib.hid fun W => cost_good W 1 1 xs.length (by omega) (by omega) (by omega)
  have Hx := Lib.hid hx
  clear hx ha' hb'
  simp only [xcells] at KP1 KP2 ⊢
  go_enter Tryd.func4, Tryd.ntmps4
  go_wp2_with fail
  refine startG 6 (l := #[false, false, false, false, false, false]) (by kernel_rfl) rfl rfl ?_
  generalize ((w.alloc (.cells #[.int .u8 6, .int .u8 (a : Int), .int .u8 (b : Int), .int .u16 (fr : Int), .int .u8 (fl : Int), .slice A0 n0 c0] 34)).alloc (.cells #[.int .u8 2, .int .u8 (a2 : Int), .int .u8 (b2 : Int), .int .u16 (fr2 : Int), .int .u8 (fl2 : Int), .slice A xs.length c] 34)).drew = W0 at Hn1 Hn2 Hb0 ⊢
  refine takeG 0 (v := .agg #[.int .u8 6, .int .u8 (a : Int), .int .u8 (b : Int), .int .u16 (fr : Int), .int .u8 (fl : Int), .slice A0 n0 c0]) rfl (by decide +kernel) (by decide +kernel) (by decide +kernel) (fun _ _ _ h => h) (Or.inl ⟨by rfl, ?_⟩) ?_
  · intro W hW
    have hn := (hW.block _ (lt_of_block Hn1.out)).trans Hn1.out
    have q0 := block_at (i := 0) hn rfl
    have q1 := block_at (i := 1) hn rfl
    have q2 := block_at (i := 2) hn rfl
    have q3 := block_at (i := 3) hn rfl
    have q4 := block_at (i := 4) hn rfl
    have q5 := block_at (i := 5) hn rfl
    clear hn hW
    go_simp
    first | done | with_reducible rfl
  try simp only [Act.put, List.setIfInBounds_toArray, List.set_cons_zero, List.set_cons_succ]
  refine takeG 2 (v := .agg #[.int .u8 2, .int .u8 (a2 : Int), .int .u8 (b2 : Int), .int .u16 (fr2 : Int), .int .u8 (fl2 : Int), .slice A xs.length c]) rfl (by decide +kernel) (by decide +kernel) (by decide +kernel) (fun _ _ _ h => h) (Or.inl ⟨by rfl, ?_⟩) ?_
  · intro W hW
    have hn := (hW.block _ (lt_of_block Hn2.out)).trans Hn2.out
    have q0 := block_at (i := 0) hn rfl
    have q1 := block_at (i := 1) hn rfl
    have q2 := block_at (i := 2) hn rfl
    have q3 := block_at (i := 3) hn rfl
    have q4 := block_at (i := 4) hn rfl
    have q5 := block_at (i := 5) hn rfl
    clear hn hW
    go_simp
    first | done | with_reducible rfl
  try simp only [Act.put, List.setIfInBounds_toArray, List.set_cons_zero, List.set_cons_succ]
  refine stepG 1 rfl (by decide +kernel) (by rfl) ?_
  intro K hK
  go_simp
  refine (KP1.out W0).mono ?_
  rintro e w1 ⟨A1, c1, rfl, hc1, b1⟩
  refine hK _ _ b1 ?_
  clear hK K KP1
  try simp only [Act.put, List.setIfInBounds_toArray, List.set_cons_zero, List.set_cons_succ]
  have hb1 := Lib.hid (Hb0.out.trans (b1.mono Hb0.out.size))
  have hc1 := Lib.hid hc1
  have hn1 := Lib.hid ((b1.block _ (lt_of_block Hn2.out)).trans Hn2.out)
  clear b1 Hn1 Hn2
  refine stepG 3 rfl (by decide +kernel) (by rfl) ?_
  intro K hK
  go_simp
  refine (KP2.out w1 (Hx.out.belowTop hb1.out)).mono ?_
  rintro e w2 ⟨A2, c2, rfl, r2, b2⟩
  refine hK _ _ b2 ?_
  clear hK K KP2
  try simp only [Act.put, List.setIfInBounds_toArray, List.set_cons_zero, List.set_cons_succ]
  have hb2 := Lib.hid (hb1.out.trans (b2.mono hb1.out.size))
  have hn2 := Lib.hid ((b2.block _ (lt_of_block hn1.out)).trans hn1.out)
  have hr2 := Lib.hid r2
  clear r2 b2 hn1 hb1
  refine stepG 4 rfl (by decide +kernel) (by rfl) ?_
  intro K hK
  go_simp
  refine hK _ _ ((Below.refl w2.heap.size w2).alloc (Nat.le_refl _) _) ?_
  clear hK K
  try simp only [Act.put, List.setIfInBounds_toArray, List.set_cons_zero, List.set_cons_succ]
  refine stepG 5 rfl (by decide +kernel) (by rfl) ?_
  intro K hK
  go_simp
  refine hK _ _ (Gr.refl _) ?_
  clear hK K
  try simp only [Act.put, List.setIfInBounds_toArray, List.set_cons_zero, List.set_cons_succ]
  refine doneG (by kernel_rfl) ?_
  have hown : Hid ((w2.alloc (.cells #[.int .u8 9, .int .u8 (a' : Int), .int .u8 (b' : Int), .int .u16 0, .int .u8 0, .int .u8 0, .bool false, .bool false, .int .u8 0, .slice A1 0 c1, .int .u8 3, .int .u8 0, .int .u8 0, .int .u16 0, .int .u8 0, .int .u8 0, .bool false, .bool false, .int .u8 0, .slice A2 xs.length c2] 40)).ownsRow w2.heap.size 40 10 (.slice (some ⟨w2.heap.size, 0, none⟩) 2 2) 2 (([(rTok a' b' A1 c1, []), (rDat A2 xs.length c2, xs)] : List (Rg × List UInt8)).flatMap fun x => (pcells x.1).toList)) :=
    ⟨rfl, .inr ⟨w2.heap.size, 2, _, rfl, Nat.le_refl _, heap_alloc_new w2 _, Nat.le_refl _, by decide, rfl, rfl⟩⟩
  have hb3 : Hid (Below w.heap.size w (w2.alloc (.cells #[.int .u8 9, .int .u8 (a' : Int), .int .u8 (b' : Int), .int .u16 0, .int .u8 0, .int .u8 0, .bool false, .bool false, .int .u8 0, .slice A1 0 c1, .int .u8 3, .int .u8 0, .int .u8 0, .int .u16 0, .int .u8 0, .int .u8 0, .bool false, .bool false, .int .u8 0, .slice A2 xs.length c2] 40))) := hb2.out.alloc hb2.out.size _
  have hn3 : Hid ((w2.alloc (.cells #[.int .u8 9, .int .u8 (a' : Int), .int .u8 (b' : Int), .int .u16 0, .int .u8 0, .int .u8 0, .bool false, .bool false, .int .u8 0, .slice A1 0 c1, .int .u8 3, .int .u8 0, .int .u8 0, .int .u16 0, .int .u8 0, .int .u8 0, .bool false, .bool false, .int .u8 0, .slice A2 xs.length c2] 40)).heap[w.heap.size + 1]? = some (.cells #[.int .u8 2, .int .u8 (a2 : Int), .int .u8 (b2 : Int), .int .u16 (fr2 : Int), .int .u8 (fl2 : Int), .slice A xs.length c] 34)) := (Below.heap_alloc _ _ _ (lt_of_block hn2.out)).trans hn2.out
  have hr3 : Hid (Rd (w2.alloc (.cells #[.int .u8 9, .int .u8 (a' : Int), .int .u8 (b' : Int), .int .u16 0, .int .u8 0, .int .u8 0, .bool false, .bool false, .int .u8 0, .slice A1 0 c1, .int .u8 3, .int .u8 0, .int .u8 0, .int .u16 0, .int .u8 0, .int .u8 0, .bool false, .bool false, .int .u8 0, .slice A2 xs.length c2] 40)) (w2.alloc (.cells #[.int .u8 9, .int .u8 (a' : Int), .int .u8 (b' : Int), .int .u16 0, .int .u8 0, .int .u8 0, .bool false, .bool false, .int .u8 0, .slice A1 0 c1, .int .u8 3, .int .u8 0, .int .u8 0, .int .u16 0, .int .u8 0, .int .u8 0, .bool false, .bool false, .int .u8 0, .slice A2 xs.length c2] 40)).heap.size A2 c2 xs) := hr2.out.belowTop ((Below.refl w2.heap.size w2).alloc (Nat.le_refl _) _)
  have hbs : Hid (w.heap.size ≤ w2.heap.size) := hb2.out.size
  have hrg : Hid (Rd (w2.alloc (.cells #[.int .u8 9, .int .u8 (a' : Int), .int .u8 (b' : Int), .int .u16 0, .int .u8 0, .int .u8 0, .bool false, .bool false, .int .u8 0, .slice A1 0 c1, .int .u8 3, .int .u8 0, .int .u8 0, .int .u16 0, .int .u8 0, .int .u8 0, .bool false, .bool false, .int .u8 0, .slice A2 xs.length c2] 40)) w2.heap.size A2 c2 xs) := hr2.out.below ((Below.refl w2.heap.size w2).alloc (Nat.le_refl _) _)
  have hgW : Hid (w2.heap.size ≤ (w2.alloc (.cells #[.int .u8 9, .int .u8 (a' : Int), .int .u8 (b' : Int), .int .u16 0, .int .u8 0, .int .u8 0, .bool false, .bool false, .int .u8 0, .slice A1 0 c1, .int .u8 3, .int .u8 0, .int .u8 0, .int .u16 0, .int .u8 0, .int .u8 0, .bool false, .bool false, .int .u8 0, .slice A2 xs.length c2] 40)).heap.size) := by show _ ≤ _; simp
  have hne : Hid (w.heap.size + 1 < w2.heap.size) := lt_of_block hn2.out
  generalize w2.alloc (.cells #[.int .u8 9, .int .u8 (a' : Int), .int .u8 (b' : Int), .int .u16 0, .int .u8 0, .int .u8 0, .bool false, .bool false, .int .u8 0, .slice A1 0 c1, .int .u8 3, .int .u8 0, .int .u8 0, .int .u16 0, .int .u8 0, .int .u8 0, .bool false, .bool false, .int .u8 0, .slice A2 xs.length c2] 40) = W3 at hown hb3 hn3 hr3 hrg hgW ⊢
  generalize w2.heap.size = g at hown hbs hrg hgW hne ⊢
  clear hn2 hr2 hb2
  obtain ⟨ps, hps⟩ : ∃ ps : List (Rg × List UInt8), ps = [(rTok a' b' A1 c1, []), (rDat A2 xs.length c2, xs)] := ⟨_, rfl⟩
  have hlen : ps.length = 2 := by rw [hps]; rfl
  have hsum : Hid (sumS ps ≤ transN 1 xs.length) := by
    have e1 := lenL_le (rTok a' b' A1 c1, []) 3 (enc_tok a' b' A1 c1)
    have e2 := lenL_le (rDat A2 xs.length c2, xs) (xs.length + 3) (enc_data A2 c2 xs)
    show sumS ps ≤ _
    rw [hps]
    unfold sumS transN
    simp only [List.map_cons, List.map_nil, List.sum_cons, List.sum_nil, if_pos]
    rw [worst3] at e1
    omega
  have hok : Hid (∀ k, k < ps.length → PkOk W3 (ps.getD k (bare 0, []))) := by
    intro k hk
    rw [hlen] at hk
    rw [hps]
    rcases (by omega : k = 0 ∨ k = 1) with rfl | rfl
    · exact ok_tok a' b' ha7 hb4' A1 c1 W3 hc1.out
    · exact ok_dat A2 c2 xs (by omega) W3 hr3.out
  obtain ⟨g', cap, e1, hcap, hg, hat⟩ := pkAt_own (v := .slice (some ⟨g, 0, none⟩) 2 2) ps (by rw [hps]; exact hown.out) (by omega)
  injection e1 with e1 e2 e3
  injection e1 with e1
  injection e1 with e1
  subst e1
  have Hat := Lib.hid hat
  have hlen := Lib.hid hlen
  clear hat hown hr3 hps e2 hc1 ha7 hb4' hrg hgW hne
  obtain rfl : cap = 2 := e3.symm
  go_wp2
  go_loopw [9, 10] (fun s i wr => ∃ k : Nat, k ≤ 2 ∧ i = .int .i64 k ∧ s = .int .i64 ((sumS (ps.take k) : Nat) : Int) ∧ sumS (ps.take k) ≤ 20008 * k ∧ Below W3.heap.size W3 wr) (fun _ i _ => 2 - (intOf i).toNat)
  case atStart => exact ⟨0, by omega, rfl, rfl, by simp [sumS], Below.refl _ _⟩
  case round =>
    obtain ⟨k, hk, rfl, rfl, hsl, hbr⟩ := hrel
    by_cases hlt : k < 2
    · obtain ⟨okk, hE, Ad, cd, hd, hrd⟩ := hok.out k (by rw [hlen.out]; exact hlt)
      have hsn := Lib.hid (sumS_snoc ps (k := k) (by rw [hlen.out]; exact hlt))
      have q : ∀ j, j < 10 → wr.cell? ⟨g, k * 10 + j, none⟩ = (pcells (ps.getD k (bare 0, [])).1)[j]? := fun j hj => (hbr.cell (p := ⟨g, k * 10 + j, none⟩) hg).trans (Hat.out k j (by rw [hlen.out]; exact hlt) hj)
      have hB := hb3.out.trans (hbr.mono hb3.out.size)
      have KS := Lib.hid (send3 wr (hL.below hB) (hV.below hB) _ okk Ad cd _ (hrd.belowTop hbr) hd hE)
      have hll : lenL (ps.getD k (bare 0, [])) = (Lv.sendL (encL (ps.getD k (bare 0, [])).1 (ps.getD k (bare 0, [])).2)).length + 8 := rfl
      have hl9 : lenL (ps.getD k (bare 0, [])) ≤ 20008 := by
        have h2 := err_zero _ okk _ hE
        have h3 := contentL_len (ps.getD k (bare 0, [])).1 (ps.getD k (bare 0, [])).2
        have h4 := lenL_le (ps.getD k (bare 0, [])) _ rfl
        have h5 := worstN_le (n := (encL (ps.getD k (bare 0, [])).1 (ps.getD k (bare 0, [])).2).length) (by show (contentL _ _).length + 1 ≤ 2000; omega)
        omega
      generalize lenL (ps.getD k (bare 0, [])) = y at hll hl9 hsn
      generalize Lv.sendL (encL (ps.getD k (bare 0, [])).1 (ps.getD k (bare 0, [])).2) = ls at KS hll
      generalize (ps.getD k (bare 0, [])).1 = r at q KS
      clear okk hE hd hrd
      obtain ⟨p0, p1, p2, p3, p4, p5, p6, p7, p8, p9, p10⟩ := r
      have q0 := q 0 (by decide)
      have q1 := q 1 (by decide)
      have q2 := q 2 (by decide)
      have q3 := q 3 (by decide)
      have q4 := q 4 (by decide)
      have q5 := q 5 (by decide)
      have q6 := q 6 (by decide)
      have q7 := q 7 (by decide)
      have q8 := q 8 (by decide)
      have q9 := q 9 (by decide)
      simp only [pcells] at q0 q1 q2 q3 q4 q5 q6 q7 q8 q9 KS
      simp at q0 q1 q2 q3 q4 q5 q6 q7 q8 q9
      clear q
      generalize sumS (ps.take k) = S at hsn hsl
      go_wp2_with fail
      refine KS.out.mono ?_
      rintro e w5 ⟨v5, rfl, o5, b5⟩
      obtain ⟨A5, c5, rfl, r5⟩ := Rd.of_own o5
      have hb5 := hbr.trans (b5.mono hbr.size)
      clear o5 r5 q0 q1 q2 q3 q4 q5 q6 q7 q8 q9 KS b5
      go_wp2
      go_roundw
      case rel => exact ⟨k + 1, by omega, by go_num, by rw [hsn.out]; exact congrArg (Value.int .i64) (by omega), by rw [hsn.out]; omega, hb5⟩
      case measure => simp [intOf]; omega
    · obtain rfl : k = 2 := by omega
      have hS : sumS (ps.take 2) ≤ transN 1 xs.length := by
        rw [show ps.take 2 = ps by rw [← hlen.out, List.take_length]]
        exact hsum.out
      generalize sumS (ps.take 2) = S at hS hsl ⊢
      have hTl := transN_le (k := 1) (n := xs.length) (by omega)
      rw [show costN 1 1 xs.length = transN 1 xs.length by simp [costN]] at KC
      have KCh := KC
      clear KC hsum
      generalize transN 1 xs.length = T at KCh hS hTl
      have hST : (S : Int) ≤ (T : Int) := by omega
      have hn := (hbr.block _ (lt_of_block hn3.out)).trans hn3.out
      have q5 := block_at (i := 5) hn rfl
      have hB := hb3.out.trans (hbr.mono hb3.out.size)
      clear hn hn3 hok
      go_wp2_with fail
      refine (KCh.out _).mono ?_
      rintro e w6 ⟨rfl, b6⟩
      have b6 := hB.trans (b6.mono hB.size)
      clear q5
      go_wp2_with fail
      refine (KL.out _).mono ?_
      rintro e w7 ⟨rfl, b7⟩
      go_wp2
      go_ret
      exact ⟨rfl, b6.trans (b7.mono b6.size)⟩

set_option maxHeartbeats 3200000 in
set_option maxRecDepth 100000 in
theorem lawSent_hs (w : World) (hL : Laid w) (hV : Lv.Laid w) (wt a b fr fl : Nat) (ha : a < 256) (hb : b < 256) (A0 : Option Addr) (n0 c0 : Nat)
    (wt2 a2 b2 fr2 fl2 : Nat) (A : Option Addr) (c : Nat) (xs : List UInt8) (hx : Rd w w.heap.size A c xs) (hl : xs.length ≤ 200) :
    Calls Tryd.prog 4 #[.agg (xcells wt a b fr fl (.slice A0 n0 c0)), .agg (xcells wt2 a2 b2 fr2 fl2 (.slice A xs.length c)), .bool false] w (ResB w true) := by
  have t1 : ¬ (200 : Int) < (xs.length : Int) := by omega
  have Hn1 : Hid (((w.alloc (.cells #[.int .u8 6, .int .u8 (a : Int), .int .u8 (b : Int), .int .u16 (fr : Int), .int .u8 (fl : Int), .slice A0 n0 c0] 34)).alloc (.cells #[.int .u8 2, .int .u8 (a2 : Int), .int .u8 (b2 : Int), .int .u16 (fr2 : Int), .int .u8 (fl2 : Int), .slice A xs.length c] 34)).drew.heap[w.heap.size]? = some (.cells #[.int .u8 6, .int .u8 (a : Int), .int .u8 (b : Int), .int .u16 (fr : Int), .int .u8 (fl : Int), .slice A0 n0 c0] 34)) := (Below.heap_alloc _ _ _ (lt_of_block (heap_alloc_new w (.cells #[.int .u8 6, .int .u8 (a : Int), .int .u8 (b : Int), .int .u16 (fr : Int), .int .u8 (fl : Int), .slice A0 n0 c0] 34)))).trans (heap_alloc_new w (.cells #[.int .u8 6, .int .u8 (a : Int), .int .u8 (b : Int), .int .u16 (fr : Int), .int .u8 (fl : Int), .slice A0 n0 c0] 34))
  have Hn2 : Hid (((w.alloc (.cells #[.int .u8 6, .int .u8 (a : Int), .int .u8 (b : Int), .int .u16 (fr : Int), .int .u8 (fl : Int), .slice A0 n0 c0] 34)).alloc (.cells #[.int .u8 2, .int .u8 (a2 : Int), .int .u8 (b2 : Int), .int .u16 (fr2 : Int), .int .u8 (fl2 : Int), .slice A xs.length c] 34)).drew.heap[w.heap.size + 1]? = some (.cells #[.int .u8 2, .int .u8 (a2 : Int), .int .u8 (b2 : Int), .int .u16 (fr2 : Int), .int .u8 (fl2 : Int), .slice A xs.length c] 34)) := by
    have h := heap_alloc_new (w.alloc (.cells #[.int .u8 6, .int .u8 (a : Int), .int .u8 (b : Int), .int .u16 (fr : Int), .int .u8 (fl : Int), .slice A0 n0 c0] 34)) (.cells #[.int .u8 2, .int .u8 (a2 : Int), .int .u8 (b2 : Int), .int .u16 (fr2 : Int), .int .u8 (fl2 : Int), .slice A xs.length c] 34)
    rw [show (w.alloc (.cells #[.int .u8 6, .int .u8 (a : Int), .int .u8 (b : Int), .int .u16 (fr : Int), .int .u8 (fl : Int), .slice A0 n0 c0] 34)).heap.size = w.heap.size + 1 by simp] at h
    exact h
  have Hb0 : Hid (Below w.heap.size w ((w.alloc (.cells #[.int .u8 6, .int .u8 (a : Int), .int .u8 (b : Int), .int .u16 (fr : Int), .int .u8 (fl : Int), .slice A0 n0 c0] 34)).alloc (.cells #[.int .u8 2, .int .u8 (a2 : Int), .int .u8 (b2 : Int), .int .u16 (fr2 : Int), .int .u8 (fl2 : Int), .slice A xs.length c] 34)).drew) := (((Below.refl w.heap.size w).alloc (Nat.le_refl _) _).alloc (by simp) _).drew
  obtain ⟨a', ha', ha7⟩ : ∃ a', a % 128 = a' ∧ a' < 128 := ⟨_, rfl, by omega⟩
  obtain ⟨b', hb', hb4'⟩ : ∃ b', b % 16 = b' ∧ b' < 16 := ⟨_, rfl, by omega⟩
  have KP1 := Lib.hid fun W => tok_res W a b fr fl ha hb A0 n0 c0
  rw [ha', hb'] at KP1
  have KP2 := Lib.hid fun W h => dat_res W a2 b2 fr2 fl2 A c xs h (by omega)
  have KL := Lib.hid lives_any
  have KC := Lib.hid fun W => cost_good W 1 2 xs.length (by omega) (by omega) (by omega)
  have Hx := Lib.hid hx
  clear hx ha' hb'
  simp only [xcells] at KP1 KP2 ⊢
  go_enter Tryd.func4, Tryd.ntmps4
  go_wp2_with fail
  refine startG 6 (l := #[false, false, false, false, false, false]) (by kernel_rfl) rfl rfl ?_
  generalize ((w.alloc (.cells #[.int .u8 6, .int .u8 (a : Int), .int .u8 (b : Int), .int .u16 (fr : Int), .int .u8 (fl : Int), .slice A0 n0 c0] 34)).alloc (.cells #[.int .u8 2, .int .u8 (a2 : Int), .int .u8 (b2 : Int), .int .u16 (fr2 : Int), .int .u8 (fl2 : Int), .slice A xs.length c] 34)).drew = W0 at Hn1 Hn2 Hb0 ⊢
  refine takeG 0 (v := .agg #[.int .u8 6, .int .u8 (a : Int), .int .u8 (b : Int), .int .u16 (fr : Int), .int .u8 (fl : Int), .slice A0 n0 c0]) rfl (by decide +kernel) (by decide +kernel) (by decide +kernel) (fun _ _ _ h => h) (Or.inl ⟨by rfl, ?_⟩) ?_
  · intro W hW
    have hn := (hW.block _ (lt_of_block Hn1.out)).trans Hn1.out
    have q0 := block_at (i := 0) hn rfl
    have q1 := block_at (i := 1) hn rfl
    have q2 := block_at (i := 2) hn rfl
    have q3 := block_at (i := 3) hn rfl
    have q4 := block_at (i := 4) hn rfl
    have q5 := block_at (i := 5) hn rfl
    clear hn hW
    go_simp
    first | done | with_reducible rfl
  try simp only [Act.put, List.setIfInBounds_toArray, List.set_cons_zero, List.set_cons_succ]
  refine takeG 2 (v := .agg #[.int .u8 2, .int .u8 (a2 : Int), .int .u8 (b2 : Int), .int .u16 (fr2 : Int), .int .u8 (fl2 : Int), .slice A xs.length c]) rfl (by decide +kernel) (by decide +kernel) (by decide +kernel) (fun _ _ _ h => h) (Or.inl ⟨by rfl, ?_⟩) ?_
  · intro W hW
    have hn := (hW.block _ (lt_of_block Hn2.out)).trans Hn2.out
    have q0 := block_at (i := 0) hn rfl
    have q1 := block_at (i := 1) hn rfl
    have q2 := block_at (i := 2) hn rfl
    have q3 := block_at (i := 3) hn rfl
    have q4 := block_at (i := 4) hn rfl
    have q5 := block_at (i := 5) hn rfl
    clear hn hW
    go_simp
    first | done | with_reducible rfl
  try simp only [Act.put, List.setIfInBounds_toArray, List.set_cons_zero, List.set_cons_succ]
  refine stepG 1 rfl (by decide +kernel) (by rfl) ?_
  intro K hK
  go_simp
  refine (KP1.out W0).mono ?_
  rintro e w1 ⟨A1, c1, rfl, hc1, b1⟩
  refine hK _ _ b1 ?_
  clear hK K KP1
  try simp only [Act.put, List.setIfInBounds_toArray, List.set_cons_zero, List.set_cons_succ]
  have hb1 := Lib.hid (Hb0.out.trans (b1.mono Hb0.out.size))
  have hc1 := Lib.hid hc1
  have hn1 := Lib.hid ((b1.block _ (lt_of_block Hn2.out)).trans Hn2.out)
  clear b1 Hn1 Hn2
  refine stepG 3 rfl (by decide +kernel) (by rfl) ?_
  intro K hK
  go_simp
  refine (KP2.out w1 (Hx.out.belowTop hb1.out)).mono ?_
  rintro e w2 ⟨A2, c2, rfl, r2, b2⟩
  refine hK _ _ b2 ?_
  clear hK K KP2
  try simp only [Act.put, List.setIfInBounds_toArray, List.set_cons_zero, List.set_cons_succ]
  have hb2 := Lib.hid (hb1.out.trans (b2.mono hb1.out.size))
  have hn2 := Lib.hid ((b2.block _ (lt_of_block hn1.out)).trans hn1.out)
  have hr2 := Lib.hid r2
  clear r2 b2 hn1 hb1
  refine stepG 4 rfl (by decide +kernel) (by rfl) ?_
  intro K hK
  go_simp
  refine hK _ _ ((Below.refl w2.heap.size w2).alloc (Nat.le_refl _) _) ?_
  clear hK K
  try simp only [Act.put, List.setIfInBounds_toArray, List.set_cons_zero, List.set_cons_succ]
  refine stepG 5 rfl (by decide +kernel) (by rfl) ?_
  intro K hK
  go_simp
  refine hK _ _ (Gr.refl _) ?_
  clear hK K
  try simp only [Act.put, List.setIfInBounds_toArray, List.set_cons_zero, List.set_cons_succ]
  refine doneG (by kernel_rfl) ?_
  have hown : Hid ((w2.alloc (.cells #[.int .u8 9, .int .u8 (a' : Int), .int .u8 (b' : Int), .int .u16 0, .int .u8 0, .int .u8 0, .bool false, .bool false, .int .u8 0, .slice A1 0 c1, .int .u8 3, .int .u8 0, .int .u8 0, .int .u16 0, .int .u8 0, .int .u8 0, .bool false, .bool false, .int .u8 0, .slice A2 xs.length c2] 40)).ownsRow w2.heap.size 40 10 (.slice (some ⟨w2.heap.size, 0, none⟩) 2 2) 2 (([(rTok a' b' A1 c1, []), (rDat A2 xs.length c2, xs)] : List (Rg × List UInt8)).flatMap fun x => (pcells x.1).toList)) :=
    ⟨rfl, .inr ⟨w2.heap.size, 2, _, rfl, Nat.le_refl _, heap_alloc_new w2 _, Nat.le_refl _, by decide, rfl, rfl⟩⟩
  have hb3 : Hid (Below w.heap.size w (w2.alloc (.cells #[.int .u8 9, .int .u8 (a' : Int), .int .u8 (b' : Int), .int .u16 0, .int .u8 0, .int .u8 0, .bool false, .bool false, .int .u8 0, .slice A1 0 c1, .int .u8 3, .int .u8 0, .int .u8 0, .int .u16 0, .int .u8 0, .int .u8 0, .bool false, .bool false, .int .u8 0, .slice A2 xs.length c2] 40))) := hb2.out.alloc hb2.out.size _
  have hn3 : Hid ((w2.alloc (.cells #[.int .u8 9, .int .u8 (a' : Int), .int .u8 (b' : Int), .int .u16 0, .int .u8 0, .int .u8 0, .bool false, .bool false, .int .u8 0, .slice A1 0 c1, .int .u8 3, .int .u8 0, .int .u8 0, .int .u16 0, .int .u8 0, .int .u8 0, .bool false, .bool false, .int .u8 0, .slice A2 xs.length c2] 40)).heap[w.heap.size + 1]? = some (.cells #[.int .u8 2, .int .u8 (a2 : Int), .int .u8 (b2 : Int), .int .u16 (fr2 : Int), .int .u8 (fl2 : Int), .slice A xs.length c] 34)) := (Below.heap_alloc _ _ _ (lt_of_block hn2.out)).trans hn2.out
  have hr3 : Hid (Rd (w2.alloc (.cells #[.int .u8 9, .int .u8 (a' : Int), .int .u8 (b' : Int), .int .u16 0, .int .u8 0, .int .u8 0, .bool false, .bool false, .int .u8 0, .slice A1 0 c1, .int .u8 3, .int .u8 0, .int .u8 0, .int .u16 0, .int .u8 0, .int .u8 0, .bool false, .bool false, .int .u8 0, .slice A2 xs.length c2] 40)) (w2.alloc (.cells #[.int .u8 9, .int .u8 (a' : Int), .int .u8 (b' : Int), .int .u16 0, .int .u8 0, .int .u8 0, .bool false, .bool false, .int .u8 0, .slice A1 0 c1, .int .u8 3, .int .u8 0, .int .u8 0, .int .u16 0, .int .u8 0, .int .u8 0, .bool false, .bool false, .int .u8 0, .slice A2 xs.length c2] 40)).heap.size A2 c2 xs) := hr2.out.belowTop ((Below.refl w2.heap.size w2).alloc (Nat.le_refl _) _)
  have hbs : Hid (w.heap.size ≤ w2.heap.size) := hb2.out.size
  have hrg : Hid (Rd (w2.alloc (.cells #[.int .u8 9, .int .u8 (a' : Int), .int .u8 (b' : Int), .int .u16 0, .int .u8 0, .int .u8 0, .bool false, .bool false, .int .u8 0, .slice A1 0 c1, .int .u8 3, .int .u8 0, .int .u8 0, .int .u16 0, .int .u8 0, .int .u8 0, .bool false, .bool false, .int .u8 0, .slice A2 xs.length c2] 40)) w2.heap.size A2 c2 xs) := hr2.out.below ((Below.refl w2.heap.size w2).alloc (Nat.le_refl _) _)
  have hgW : Hid (w2.heap.size ≤ (w2.alloc (.cells #[.int .u8 9, .int .u8 (a' : Int), .int .u8 (b' : Int), .int .u16 0, .int .u8 0, .int .u8 0, .bool false, .bool false, .int .u8 0, .slice A1 0 c1, .int .u8 3, .int .u8 0, .int .u8 0, .int .u16 0, .int .u8 0, .int .u8 0, .bool false, .bool false, .int .u8 0, .slice A2 xs.length c2] 40)).heap.size) := by show _ ≤ _; simp
  have hne : Hid (w.heap.size + 1 < w2.heap.size) := lt_of_block hn2.out
  generalize w2.alloc (.cells #[.int .u8 9, .int .u8 (a' : Int), .int .u8 (b' : Int), .int .u16 0, .int .u8 0, .int .u8 0, .bool false, .bool false, .int .u8 0, .slice A1 0 c1, .int .u8 3, .int .u8 0, .int .u8 0, .int .u16 0, .int .u8 0, .int .u8 0, .bool false, .bool false, .int .u8 0, .slice A2 xs.length c2] 40) = W3 at hown hb3 hn3 hr3 hrg hgW ⊢
  generalize w2.heap.size = g at hown hbs hrg hgW hne ⊢
  clear hn2 hr2 hb2
  obtain ⟨i0, hi, hz0, hz1, hz2⟩ := info_parts Tryd.info40
  have hi0 := Lib.hid hi
  have hi1 := Lib.hid hz0
  have hi2 := Lib.hid hz1
  have hi3 := Lib.hid hz2
  clear hi hz0 hz1 hz2
  go_wp2_with (at_builtin; (refine wpList_append_own_at (P := Tryd.prog) _ rfl (.tmp 28) (.tmp 30) 42 rfl w.heap.size 40 i0 _ 10 40 Tryd.underlying42 hi0.out hi1.out hi2.out hi3.out rfl (by decide) (.slice (some ⟨g, 0, none⟩) 2 2) 2 _ rfl ((own_baseN hown.out hbs.out).alloc _) ⟨W3.heap.size, 0, none⟩ 1 1 [.int .u8 2, .int .u8 0, .int .u8 0, .int .u16 0, .int .u8 0, .int .u8 0, .bool false, .bool false, .int .u8 0, .slice none 0 0] rfl rfl (news_at W3 _ _) (fun u hu => List.all_eq_true.1 (show ([.int .u8 2, .int .u8 0, .int .u8 0, .int .u16 0, .int .u8 0, .int .u8 0, .bool false, .bool false, .int .u8 0, .slice none 0 0] : List Value).all (fun u => u.oneCell') = true from rfl) u hu) (by decide) (by decide) (by simp; exact Nat.le_succ_of_le hb3.out.size) ?_; intro v4 w4 own4 gr4 _ _))
  have hg4 := Lib.hid gr4
  have hb4 : Hid (Below w.heap.size w w4) := (hb3.out.alloc hb3.out.size _).grown gr4 (by simp; exact Nat.le_succ_of_le hb3.out.size) fun k e => by cases e; exact hbs.out
  have hn4 : Hid (w4.heap[w.heap.size + 1]? = some (.cells #[.int .u8 2, .int .u8 (a2 : Int), .int .u8 (b2 : Int), .int .u16 (fr2 : Int), .int .u8 (fl2 : Int), .slice A xs.length c] 34)) := (gr4.block _ (Nat.lt_of_lt_of_le (lt_of_block hn3.out) (by simp)) (fun e => by have h1 := hne.out; have e' : some (w.heap.size + 1) = some g := e; injection e' with e'; omega)).trans ((Below.heap_alloc _ _ _ (lt_of_block hn3.out)).trans hn3.out)
  have hr4 : Hid (Rd w4 w4.heap.size A2 c2 xs) := ((hrg.out.alloc hgW.out _).grown gr4 (by simp; exact Nat.le_succ_of_le hgW.out) (fun k e => by cases e; exact Nat.le_refl _)).more (Nat.le_trans hgW.out (Nat.le_trans (by simp) gr4.size))
  clear gr4 hg4 hb3 hn3 hr3 hrg hgW hne hbs
  obtain ⟨ps, hps⟩ : ∃ ps : List (Rg × List UInt8), ps = [(rTok a' b' A1 c1, []), (rDat A2 xs.length c2, xs), (rAck, [])] := ⟨_, rfl⟩
  have hlen : ps.length = 3 := by rw [hps]; rfl
  have hsum : Hid (sumS ps ≤ transN 2 xs.length) := by
    have e1 := lenL_le (rTok a' b' A1 c1, []) 3 (enc_tok a' b' A1 c1)
    have e2 := lenL_le (rDat A2 xs.length c2, xs) (xs.length + 3) (enc_data A2 c2 xs)
    have e3 := lenL_le (rAck, []) 1 enc_ack
    show sumS ps ≤ _
    rw [hps]
    unfold sumS transN
    simp only [List.map_cons, List.map_nil, List.sum_cons, List.sum_nil]
    rw [worst3] at e1
    rw [worst1] at e3
    rw [if_neg (by decide)]
    omega
  have hok : Hid (∀ k, k < ps.length → PkOk w4 (ps.getD k (bare 0, []))) := by
    intro k hk
    rw [hlen] at hk
    rw [hps]
    rcases (by omega : k = 0 ∨ k = 1 ∨ k = 2) with rfl | rfl | rfl
    · exact ok_tok a' b' ha7 hb4' A1 c1 w4 hc1.out
    · exact ok_dat A2 c2 xs (by omega) w4 hr4.out
    · exact ok_ack w4
  obtain ⟨g', cap, e1, hcap, hg, hat⟩ := pkAt_own (v := v4) ps (by rw [hps]; exact own4) (by omega)
  subst e1
  rw [hlen]
  clear hown
  have Hat := Lib.hid hat
  have hlen := Lib.hid hlen
  clear hat own4 hr4 hps hc1 ha7 hb4'
  go_wp2
  go_loopw [9, 10] (fun s i wr => ∃ k : Nat, k ≤ 3 ∧ i = .int .i64 k ∧ s = .int .i64 ((sumS (ps.take k) : Nat) : Int) ∧ sumS (ps.take k) ≤ 20008 * k ∧ Below w4.heap.size w4 wr) (fun _ i _ => 3 - (intOf i).toNat)
  case atStart => exact ⟨0, by omega, rfl, rfl, by simp [sumS], Below.refl _ _⟩
  case round =>
    obtain ⟨k, hk, rfl, rfl, hsl, hbr⟩ := hrel
    by_cases hlt : k < 3
    · obtain ⟨okk, hE, Ad, cd, hd, hrd⟩ := hok.out k (by rw [hlen.out]; exact hlt)
      have hsn := Lib.hid (sumS_snoc ps (k := k) (by rw [hlen.out]; exact hlt))
      have q : ∀ j, j < 10 → wr.cell? ⟨g', k * 10 + j, none⟩ = (pcells (ps.getD k (bare 0, [])).1)[j]? := fun j hj => (hbr.cell (p := ⟨g', k * 10 + j, none⟩) hg).trans (Hat.out k j (by rw [hlen.out]; exact hlt) hj)
      have hB := hb4.out.trans (hbr.mono hb4.out.size)
      have KS := Lib.hid (send3 wr (hL.below hB) (hV.below hB) _ okk Ad cd _ (hrd.belowTop hbr) hd hE)
      have hll : lenL (ps.getD k (bare 0, [])) = (Lv.sendL (encL (ps.getD k (bare 0, [])).1 (ps.getD k (bare 0, [])).2)).length + 8 := rfl
      have hl9 : lenL (ps.getD k (bare 0, [])) ≤ 20008 := by
        have h2 := err_zero _ okk _ hE
        have h3 := contentL_len (ps.getD k (bare 0, [])).1 (ps.getD k (bare 0, [])).2
        have h4 := lenL_le (ps.getD k (bare 0, [])) _ rfl
        have h5 := worstN_le (n := (encL (ps.getD k (bare 0, [])).1 (ps.getD k (bare 0, [])).2).length) (by show (contentL _ _).length + 1 ≤ 2000; omega)
        omega
      generalize lenL (ps.getD k (bare 0, [])) = y at hll hl9 hsn
      generalize Lv.sendL (encL (ps.getD k (bare 0, [])).1 (ps.getD k (bare 0, [])).2) = ls at KS hll
      generalize (ps.getD k (bare 0, [])).1 = r at q KS
      clear okk hE hd hrd
      obtain ⟨p0, p1, p2, p3, p4, p5, p6, p7, p8, p9, p10⟩ := r
      have q0 := q 0 (by decide)
      have q1 := q 1 (by decide)
      have q2 := q 2 (by decide)
      have q3 := q 3 (by decide)
      have q4 := q 4 (by decide)
      have q5 := q 5 (by decide)
      have q6 := q 6 (by decide)
      have q7 := q 7 (by decide)
      have q8 := q 8 (by decide)
      have q9 := q 9 (by decide)
      simp only [pcells] at q0 q1 q2 q3 q4 q5 q6 q7 q8 q9 KS
      simp at q0 q1 q2 q3 q4 q5 q6 q7 q8 q9
      clear q
      generalize sumS (ps.take k) = S at hsn hsl
      go_wp2_with fail
      refine KS.out.mono ?_
      rintro e w5 ⟨v5, rfl, o5, b5⟩
      obtain ⟨A5, c5, rfl, r5⟩ := Rd.of_own o5
      have hb5 := hbr.trans (b5.mono hbr.size)
      clear o5 r5 q0 q1 q2 q3 q4 q5 q6 q7 q8 q9 KS b5
      go_wp2
      go_roundw
      case rel => exact ⟨k + 1, by omega, by go_num, by rw [hsn.out]; exact congrArg (Value.int .i64) (by omega), by rw [hsn.out]; omega, hb5⟩
      case measure => simp [intOf]; omega
    · obtain rfl : k = 3 := by omega
      have hS : sumS (ps.take 3) ≤ transN 2 xs.length := by
        rw [show ps.take 3 = ps by rw [← hlen.out, List.take_length]]
        exact hsum.out
      generalize sumS (ps.take 3) = S at hS hsl ⊢
      have hTl := transN_le (k := 2) (n := xs.length) (by omega)
      rw [show costN 1 2 xs.length = transN 2 xs.length by simp [costN]] at KC
      have KCh := KC
      clear KC hsum
      generalize transN 2 xs.length = T at KCh hS hTl
      have hST : (S : Int) ≤ (T : Int) := by omega
      have hn := (hbr.block _ (lt_of_block hn4.out)).trans hn4.out
      have q5 := block_at (i := 5) hn rfl
      have hB := hb4.out.trans (hbr.mono hb4.out.size)
      clear hn hn4 hok
      go_wp2_with fail
      refine (KCh.out _).mono ?_
      rintro e w6 ⟨rfl, b6⟩
      have b6 := hB.trans (b6.mono hB.size)
      clear q5
      go_wp2_with fail
      refine (KL.out _).mono ?_
      rintro e w7 ⟨rfl, b7⟩
      go_wp2
      go_ret
      exact ⟨rfl, b6.trans (b7.mono b6.size)⟩

theorem lawSent_long (w : World) (wt a b fr fl : Nat) (v0 : Value) (wt2 a2 b2 fr2 fl2 : Nat) (A : Option Addr) (c n : Nat) (iso : Bool) (hl : 200 < n) :
    Calls Tryd.prog 4 #[.agg (xcells wt a b fr fl v0), .agg (xcells wt2 a2 b2 fr2 fl2 (.slice A n c)), .bool iso] w (ResB w true) := by
  have t1 : (200 : Int) < (n : Int) := by omega
  simp only [xcells]
  go_enter Tryd.func4, Tryd.ntmps4
  go_wp2
  go_ret
  exact ⟨rfl, ((Below.refl w.heap.size w).alloc (Nat.le_refl _) _).alloc (by simp) _⟩
theorem lawSent_any (w : World) (hL : Laid w) (hV : Lv.Laid w) (wt a b fr fl : Nat) (ha : a < 256) (hb : b < 256) (A0 : Option Addr) (n0 c0 : Nat)
    (wt2 a2 b2 fr2 fl2 : Nat) (A : Option Addr) (c : Nat) (xs : List UInt8) (hx : Rd w w.heap.size A c xs) (iso : Bool) :
    Calls Tryd.prog 4 #[.agg (xcells wt a b fr fl (.slice A0 n0 c0)), .agg (xcells wt2 a2 b2 fr2 fl2 (.slice A xs.length c)), .bool iso] w (ResB w true) := by
  by_cases hl : 200 < xs.length
  · exact lawSent_long w wt a b fr fl _ wt2 a2 b2 fr2 fl2 A c _ iso hl
  · cases iso
    · exact lawSent_hs w hL hV wt a b fr fl ha hb A0 n0 c0 wt2 a2 b2 fr2 fl2 A c xs hx (by omega)
    · exact lawSent_iso w hL hV wt a b fr fl ha hb A0 n0 c0 wt2 a2 b2 fr2 fl2 A c xs hx (by omega)

end Go.Proofs.YtkmjemaajgdoiaaDoor
