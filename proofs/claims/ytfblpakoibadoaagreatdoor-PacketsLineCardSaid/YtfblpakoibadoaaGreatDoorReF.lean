/-
  Helper text: the contract of the reference's Encode; no statement is proved here.
-/
import Derived.Test.YtfblpakoibadoaaGreatDoorReE
namespace Go.Proofs.YtfblpakoibadoaaGreatDoor
open Go Go.RowKit

/-- A row of the call's own whose block is known. -/
theorem own_block {w : World} {g e base : Nat} (zs : List UInt8) (h : w.heap[g]? = some (.cells (zs.map bv).toArray e (0, 0))) (hb : base ≤ g) (hl : zs.length ≤ 1000000000) : w.ownsRow base e 1 (.slice (some ⟨g, 0, none⟩) zs.length zs.length) zs.length (zs.map bv) :=
  ⟨by simp, .inr ⟨g, zs.length, _, rfl, hb, h, Nat.le_refl _, by unfold maxLen; omega, by simp, by simp; rw [List.take_of_length_le (by simp)]⟩⟩
/-- Where a row lies; it reads so as long as its block is as it was. -/
theorem own_where {w : World} {base t : Nat} {v : Value} {xs : List UInt8} (h : w.ownsRow base t 1 v xs.length (xs.map bv)) (hn : 0 < xs.length) :
    ∃ g c, v = .slice (some ⟨g, 0, none⟩) xs.length c ∧ base ≤ g ∧ g < w.heap.size ∧ ∀ w' : World, w'.heap[g]? = w.heap[g]? → Rd w' (g + 1) (some ⟨g, 0, none⟩) c xs := by
  obtain ⟨_, h2⟩ := h
  rcases h2 with ⟨_, h0⟩ | ⟨g, cap, cur, rfl, hg, hh, hle, hm, hcs, ht⟩
  · omega
  · refine ⟨g, cap, rfl, hg, lt_of_block hh, fun w' e => ⟨hle, by simpa [maxLen] using hm, fun _ => ⟨g, 0, rfl, Nat.lt_succ_self _, fun j hj => ?_⟩⟩⟩
    rw [cell_of_row w' g (0 + j) cur t (0, 0) (e.trans hh)]
    have hx : (cur.toList.take (xs.length * 1))[j]? = (xs.map bv)[j]? := by rw [ht]
    rw [List.getElem?_take, if_pos (by omega)] at hx
    rw [Nat.zero_add, ← Array.getElem?_toList, hx]
    simp [List.getD, List.getElem?_eq_getElem hj]
/-- append of one byte to a slice of the call's own: what else stays. -/
theorem wpl_append1g {P : Program} {ops : Array Oper} {rest : List Oper} {o : Oper} {a : Act} {Q : Exit → Act → World → Prop} {w : World} {t e : TypeId} (ht : P.underlying t = some (.slice e))
    (hinf : (P.info? e).map (fun i => (i.zero, i.size, i.bytes)) = some (some (.int .u8 0), 1, 1)) (hgd : o.guard = none) (s x : Operand)
    (ho : o.op = .call { callee := .builtin .append, args := #[s, x], argTypes := #[t, t] })
    (base : Nat) (v : Value) (zs : List UInt8) (hs : a.eval s = v) (hown : w.ownsRow base e 1 v zs.length (zs.map bv)) (y : UInt8) (u : Value) (hu : u = bv y)
    (hx : a.eval x = .slice (some ⟨w.heap.size, 0, none⟩) 1 1) (hl : zs.length ≤ 1000000000) (hbase : base ≤ w.heap.size)
    (h : ∀ v' w', w'.ownsRow base e 1 v' (zs ++ [y]).length ((zs ++ [y]).map bv) → Below base w w' → (∀ g, g < w.heap.size → v.ownBlock ≠ some g → w'.heap[g]? = w.heap[g]?) → (v'.ownBlock = v.ownBlock ∨ v'.ownBlock = some (w.heap.size + 1)) → wpList P ops Q rest (a.put o.dst v') w') :
    wpList P ops Q (o :: rest) a (w.alloc (.cells #[u] e)) := by
  obtain ⟨i0, hi, hz0, hz1, hz2⟩ := info_parts hinf
  refine wpList_append_own_at _ hgd s x t ho base e i0 (.int .u8 0) 1 1 ht hi hz0 hz1 hz2 rfl (by decide) v zs.length (zs.map bv) hs (hown.alloc _) ⟨w.heap.size, 0, none⟩ 1 1 [u] hx rfl (cell_one_new _ _ _)
    (fun z hz => by simp at hz; subst hz; subst hu; rfl) (by unfold maxLen; omega) (by omega) (by simp; omega) fun v' w' h1 h2 _ h4 => h v' w' (own_snoc hu h1) ?_ (fun g hg hne => ?_) (by simpa using h4)
  · exact ((Below.refl base w).alloc hbase _).grown h2 (by simp; omega) fun k hk => (hown.lt k hk).1
  · rw [h2.block g (by simp; omega) (fun e => hne e.symm)]
    exact Below.heap_alloc w _ g hg
set_option maxHeartbeats 1600000 in
set_option maxRecDepth 100000 in
theorem refEnc_data (w : World) (r : Rg) (hp : r.pid = 3 ∨ r.pid = 11) (A : Option Addr) (c : Nat) (xs : List UInt8) (hx : Rd w w.heap.size A c xs) (hd : r.data = .slice A xs.length c) (hl : xs.length ≤ 2000) :
    Calls Tryz.prog 13 #[.agg (pcells r)] w (ResO w 5 (encL r xs)) := by
  have HE := Lib.hid (show encL r xs = ([firstU r.pid] ++ xs) ++ [UInt8.ofNat (Ck.chkL xs), UInt8.ofNat (Ck.chkL xs / 256)] by
    unfold encL contentL
    rw [isD_true hp]
    show firstU r.pid :: Ck.addL xs = _
    unfold Ck.addL
    simp)
  generalize encL r xs = zs at HE ⊢
  obtain ⟨p0, p1, p2, p3, p4, p5, p6, p7, p8, p9, p10⟩ := r
  simp only at hp hd HE
  subst hd
  have Hn := Lib.hid (heap_alloc_new w (.cells #[.int .u8 (p0 : Int), .int .u8 (p1 : Int), .int .u8 (p2 : Int), .int .u16 (p3 : Int), .int .u8 (p4 : Int), .int .u8 (p5 : Int), .bool p6, .bool p7, .int .u8 (p8 : Int), .slice A xs.length c] 29))
  have Hb := Lib.hid ((Below.refl w.heap.size w).alloc (Nat.le_refl _) (.cells #[.int .u8 (p0 : Int), .int .u8 (p1 : Int), .int .u8 (p2 : Int), .int .u16 (p3 : Int), .int .u8 (p4 : Int), .int .u8 (p5 : Int), .bool p6, .bool p7, .int .u8 (p8 : Int), .slice A xs.length c] 29))
  have K1 := Lib.hid fun W => first_ref W p0 (by omega)
  have K2 := Lib.hid fun W => hasD_ref W p0
  rw [show (p0 == 3 || p0 == 11) = true by rcases hp with h | h <;> simp [h]] at K2
  have K3 := Lib.hid fun W h => Ck.refSixteen_any W A c xs h (by omega)
  have hq := Ck.chkL_lt xs
  generalize Ck.chkL xs = q at HE K3 hq
  generalize firstU p0 = f at HE K1
  have hf8 : f.toNat < 256 := f.toNat_lt
  have Hx := Lib.hid hx
  simp only [pcells]
  clear hp hx
  go_enter Tryz.func13, Tryz.ntmps13
  go_wp2_with fail
  refine (K1.out _).mono ?_
  rintro e w1 ⟨rfl, e1⟩
  rw [e1]
  clear e1 K1
  replace Hn : Hid ((w.alloc (.cells #[.int .u8 (p0 : Int), .int .u8 (p1 : Int), .int .u8 (p2 : Int), .int .u16 (p3 : Int), .int .u8 (p4 : Int), .int .u8 (p5 : Int), .bool p6, .bool p7, .int .u8 (p8 : Int), .slice A xs.length c] 29)).heap[w.heap.size]? = some (.cells #[.int .u8 (p0 : Int), .int .u8 (p1 : Int), .int .u8 (p2 : Int), .int .u16 (p3 : Int), .int .u8 (p4 : Int), .int .u8 (p5 : Int), .bool p6, .bool p7, .int .u8 (p8 : Int), .slice A xs.length c] 29)) := Hn
  have Hx := Lib.hid (Hx.out.belowTop Hb.out)
  generalize w.alloc (.cells #[.int .u8 (p0 : Int), .int .u8 (p1 : Int), .int .u8 (p2 : Int), .int .u16 (p3 : Int), .int .u8 (p4 : Int), .int .u8 (p5 : Int), .bool p6, .bool p7, .int .u8 (p8 : Int), .slice A xs.length c] 29) = W at Hn Hb Hx ⊢
  have hn1 := Lib.hid ((Below.heap_alloc W (.cells #[bv f] 5) _ (lt_of_block Hn.out)).trans Hn.out)
  have ho1 := own_built W 5 [f] (by simp)
  have c0 := block_at (i := 0) hn1.out rfl
  have c9 := block_at (i := 9) hn1.out rfl
  have hb1 := Lib.hid (Hb.out.alloc Hb.out.size (.cells #[bv f] 5))
  have hx1 := Lib.hid (Hx.out.belowTop ((Below.refl W.heap.size W).alloc (Nat.le_refl _) (.cells #[bv f] 5)))
  go_wp2_with fail
  refine (K2.out _).mono ?_
  rintro e w2 ⟨rfl, e2⟩
  rw [e2]
  clear e2 K2
  go_wp2_with fail
  refine (K3.out _ hx1.out).mono ?_
  rintro e w3 ⟨rfl, b3⟩
  have ho3 := own_base (own_below ho1 b3) Hb.out.size
  have hb3 := Lib.hid (hb1.out.trans (b3.mono hb1.out.size))
  have hn3 := Lib.hid ((b3.block _ (lt_of_block hn1.out)).trans hn1.out)
  have hx3 := Lib.hid (hx1.out.belowTop b3)
  clear c0 c9 ho1 b3 hn1 hx1 hb1
  have c9 := block_at (i := 9) hn3.out rfl
  have e1 : Value.int .u8 ((q : Int) % 256) = bv (UInt8.ofNat q) := by show _ = Value.int .u8 _; rw [UInt8.toNat_ofNat']; congr 1
  have e2 : Value.int .u8 ((q : Int) / 256) = bv (UInt8.ofNat (q / 256)) := by show _ = Value.int .u8 _; rw [UInt8.toNat_ofNat']; congr 1; omega
  have He := Lib.hid (And.intro e1 e2)
  clear e1 e2
  go_wp2_with (first | (at_builtin; (refine wpl_appendN Tryz.underlying27 Ck.Tryz.info5 rfl (.tmp 17) (.tmp 19) rfl w.heap.size _ [f] rfl ho3 _ c A xs hx3.out rfl (by simp; omega) hb3.out.size ?_; intro v4 w4 o4 b4; have hb4 := Lib.hid (hb3.out.trans b4); have hro : Rd (w4.alloc (.cells #[bv (UInt8.ofNat q), bv (UInt8.ofNat (q / 256))] 5)) (w4.heap.size + 1) (some ⟨w4.heap.size, 0, none⟩) 2 [UInt8.ofNat q, UInt8.ofNat (q / 256)] := rd_built w4 5 [UInt8.ofNat q, UInt8.ofNat (q / 256)] (by simp))) | (at_builtin; rw [He.out.1, He.out.2]; (refine wpl_appendN Tryz.underlying27 Ck.Tryz.info5 rfl (.tmp 20) (.tmp 27) rfl w.heap.size v4 ([f] ++ xs) rfl (o4.alloc _) _ 2 _ [UInt8.ofNat q, UInt8.ofNat (q / 256)] hro rfl (by simp; omega) (by simp; have := hb4.out.size; omega) ?_; intro v5 w5 o5 b5)))
  go_ret
  rw [HE.out]
  exact ⟨_, rfl, o5, (hb4.out.alloc hb4.out.size _).trans b5⟩

set_option maxHeartbeats 1600000 in
set_option maxRecDepth 100000 in
theorem refEnc_bare (w : World) (r : Rg) (hp : r.pid = 2 ∨ r.pid = 6 ∨ r.pid = 10 ∨ r.pid = 14) :
    Calls Tryz.prog 13 #[.agg (pcells r)] w (ResO w 5 (encL r [])) := by
  have HE := Lib.hid (show encL r [] = [firstU r.pid] by
    unfold encL contentL
    rw [isD_false (by omega), fieldsL_none (by omega) (by omega) (by omega) (by omega) (by omega)]
    rfl)
  generalize encL r [] = zs at HE ⊢
  have K4 := Lib.hid fun W => refBits_none W r (by omega)
  rw [bits_none (by omega) (by omega) (by omega) (by omega) (by omega)] at K4
  obtain ⟨p0, p1, p2, p3, p4, p5, p6, p7, p8, p9, p10⟩ := r
  simp only at hp HE
  have Hn := Lib.hid (heap_alloc_new w (.cells #[.int .u8 (p0 : Int), .int .u8 (p1 : Int), .int .u8 (p2 : Int), .int .u16 (p3 : Int), .int .u8 (p4 : Int), .int .u8 (p5 : Int), .bool p6, .bool p7, .int .u8 (p8 : Int), p9] 29))
  have Hb := Lib.hid ((Below.refl w.heap.size w).alloc (Nat.le_refl _) (.cells #[.int .u8 (p0 : Int), .int .u8 (p1 : Int), .int .u8 (p2 : Int), .int .u16 (p3 : Int), .int .u8 (p4 : Int), .int .u8 (p5 : Int), .bool p6, .bool p7, .int .u8 (p8 : Int), p9] 29))
  have K1 := Lib.hid fun W => first_ref W p0 (by omega)
  have K2 := Lib.hid fun W => hasD_ref W p0
  rw [show (p0 == 3 || p0 == 11) = false by rcases hp with h | h | h | h <;> simp [h]] at K2
  generalize firstU p0 = f at HE K1
  have hf8 : f.toNat < 256 := f.toNat_lt
  simp only [pcells] at K4 ⊢
  clear hp
  go_enter Tryz.func13, Tryz.ntmps13
  go_wp2_with fail
  refine (K1.out _).mono ?_
  rintro e w1 ⟨rfl, e1⟩
  rw [e1]
  clear e1 K1
  generalize w.alloc (.cells #[.int .u8 (p0 : Int), .int .u8 (p1 : Int), .int .u8 (p2 : Int), .int .u16 (p3 : Int), .int .u8 (p4 : Int), .int .u8 (p5 : Int), .bool p6, .bool p7, .int .u8 (p8 : Int), p9] 29) = W at Hn Hb ⊢
  have hn1 := Lib.hid ((Below.heap_alloc W (.cells #[bv f] 5) _ (lt_of_block Hn.out)).trans Hn.out)
  have ho1 := own_built W 5 [f] (by simp)
  have hb1 := Lib.hid (Hb.out.alloc Hb.out.size (.cells #[bv f] 5))
  have c0 := block_at (i := 0) hn1.out rfl
  have c1 := block_at (i := 1) hn1.out rfl
  have c2 := block_at (i := 2) hn1.out rfl
  have c3 := block_at (i := 3) hn1.out rfl
  have c4 := block_at (i := 4) hn1.out rfl
  have c5 := block_at (i := 5) hn1.out rfl
  have c6 := block_at (i := 6) hn1.out rfl
  have c7 := block_at (i := 7) hn1.out rfl
  have c8 := block_at (i := 8) hn1.out rfl
  have c9 := block_at (i := 9) hn1.out rfl
  go_wp2_with fail
  refine (K2.out _).mono ?_
  rintro e w2 ⟨rfl, e2⟩
  rw [e2]
  clear e2 K2
  go_wp2_with fail
  refine (K4.out _).mono ?_
  rintro e w3 ⟨v3, rfl, o3, b3⟩
  obtain ⟨A3, c3', rfl, r3⟩ := Rd.of_own o3
  have ho3 := own_base (own_below ho1 b3) Hb.out.size
  clear c0 c1 c2 c3 c4 c5 c6 c7 c8 c9 o3 r3
  go_wp2
  go_ret
  rw [HE.out]
  exact ⟨_, rfl, ho3, hb1.out.trans (b3.mono hb1.out.size)⟩

set_option maxHeartbeats 3200000 in
set_option maxRecDepth 100000 in
theorem refEnc_num (w : World) (r : Rg) (ok : r.Ok) (h : Fit r []) (hd : isD r.pid = false) (hf : (fieldsL r.pid).length ≠ 0) :
    Calls Tryz.prog 13 #[.agg (pcells r)] w (ResO w 5 (encL r [])) := by
  have HE := Lib.hid (show encL r [] = [firstU r.pid] ++ bytesN (joinR r) (nbytes (fieldsL r.pid)) by
    unfold encL contentL
    rw [hd]
    rfl)
  generalize encL r [] = zs at HE ⊢
  have K4 := Lib.hid fun W => refBits_any W r [] h
  have hjb := joined_bits ok h
  have hmb := many_bits hf
  have hbl := bitsR_len r
  have hnb := nbytes_le r.pid
  have hkn := known_lt (fit_known h)
  have hbit : Ck.Bit (bitsR r) := Ck.lowL_bit _ _
  have hsl : (Ck.sentL (Ck.behL Ck.shortL (bitsR r) (List.replicate 5 1))).length = 5 := by rw [Ck.sentL_len, Ck.behL_len, List.length_replicate]
  rw [hmb] at hjb
  have hp3 : (r.pid == 3 || r.pid == 11) = false := hd
  generalize joinR r = J at HE hjb
  generalize nbytes (fieldsL r.pid) = m at HE hjb hmb hnb
  generalize placeN (fieldsL r.pid) (fieldsL r.pid).length = d at hmb hbl
  have K6 := Lib.hid fun W A1 A2 c1 c2 h1 h2 => Ck.sent_any W A1 A2 c1 c2 (bitsR r) Ck.shortL h1 h2 hbit Ck.bit_short (by omega) (by decide) (by decide)
  rw [show Ck.shortL.length = 5 from rfl] at K6
  generalize Ck.sentL (Ck.behL Ck.shortL (bitsR r) (List.replicate 5 1)) = t at K6 hjb hsl
  generalize bitsR r = bs at K4 K6 hjb hbl hbit
  have K5 := Lib.hid fun W => Ck.short_any W
  have hlen := Lib.hid (show (Ck.lowL J (8 * m)).length = 8 * m from Ck.lowL_len _ _)
  have hbl5 : 0 < bs.length := by have h1 := congrArg List.length hjb; rw [List.length_append, Ck.lowL_len, hsl] at h1; omega
  have hbl6 : bs.length ≤ 100 := by omega
  have hm0 : Hid (0 < m) := by
    have h1 := congrArg List.length hjb
    rw [List.length_append, Ck.lowL_len, hsl] at h1
    show 0 < m
    omega
  have K7 := Lib.hid fun (W : World) (B : Nat) (A : Option Addr) (c i : Nat) (hi : i < m) (h : Rd W B A c (((Ck.lowL J (8 * m)).take (8 * i + 8)).drop (8 * i))) =>
    Ck.number_any W A c B (((Ck.lowL J (8 * m)).take (8 * i + 8)).drop (8 * i)) h (fun x hx => (Ck.lowL_bit J (8 * m)).mem x (List.mem_of_mem_take (List.mem_of_mem_drop hx))) (by rw [List.length_drop, List.length_take]; omega)
  obtain ⟨p0, p1, p2, p3, p4, p5, p6, p7, p8, p9, p10⟩ := r
  simp only at hp3 hkn HE
  have K1 := Lib.hid fun W => first_ref W p0 (by omega)
  have K2 := Lib.hid fun W => hasD_ref W p0
  rw [hp3] at K2
  have Hn := Lib.hid (heap_alloc_new w (.cells #[.int .u8 (p0 : Int), .int .u8 (p1 : Int), .int .u8 (p2 : Int), .int .u16 (p3 : Int), .int .u8 (p4 : Int), .int .u8 (p5 : Int), .bool p6, .bool p7, .int .u8 (p8 : Int), p9] 29))
  have Hb := Lib.hid ((Below.refl w.heap.size w).alloc (Nat.le_refl _) (.cells #[.int .u8 (p0 : Int), .int .u8 (p1 : Int), .int .u8 (p2 : Int), .int .u16 (p3 : Int), .int .u8 (p4 : Int), .int .u8 (p5 : Int), .bool p6, .bool p7, .int .u8 (p8 : Int), p9] 29))
  generalize firstU p0 = f at HE K1
  have hf8 : f.toNat < 256 := f.toNat_lt
  simp only [pcells] at K4 ⊢
  have Hjb := Lib.hid hjb
  have Hsl := Lib.hid hsl
  clear hp3 hkn hjb hsl hmb hbl ok h hd hf hbit
  go_enter Tryz.func13, Tryz.ntmps13
  go_wp2_with fail
  refine (K1.out _).mono ?_
  rintro e w1 ⟨rfl, e1⟩
  rw [e1]
  clear e1 K1
  generalize w.alloc (.cells #[.int .u8 (p0 : Int), .int .u8 (p1 : Int), .int .u8 (p2 : Int), .int .u16 (p3 : Int), .int .u8 (p4 : Int), .int .u8 (p5 : Int), .bool p6, .bool p7, .int .u8 (p8 : Int), p9] 29) = W at Hn Hb ⊢
  have hn1 := Lib.hid ((Below.heap_alloc W (.cells #[bv f] 5) _ (lt_of_block Hn.out)).trans Hn.out)
  have ho1 := own_built W 5 [f] (by simp)
  have hb1 := Lib.hid (Hb.out.alloc Hb.out.size (.cells #[bv f] 5))
  have c0 := block_at (i := 0) hn1.out rfl
  have c1 := block_at (i := 1) hn1.out rfl
  have c2 := block_at (i := 2) hn1.out rfl
  have c3 := block_at (i := 3) hn1.out rfl
  have c4 := block_at (i := 4) hn1.out rfl
  have c5 := block_at (i := 5) hn1.out rfl
  have c6 := block_at (i := 6) hn1.out rfl
  have c7 := block_at (i := 7) hn1.out rfl
  have c8 := block_at (i := 8) hn1.out rfl
  have c9 := block_at (i := 9) hn1.out rfl
  go_wp2_with fail
  refine (K2.out _).mono ?_
  rintro e w2 ⟨rfl, e2⟩
  rw [e2]
  clear e2 K2
  go_wp2_with fail
  refine (K4.out _).mono ?_
  rintro e w3 ⟨v3, rfl, o3, b3⟩
  have hf3 := Lib.hid ((b3.block _ (lt_of_block (heap_alloc_new W (.cells #[bv f] 5)))).trans (heap_alloc_new W (.cells #[bv f] 5)))
  have hg3 := Lib.hid (lt_of_block (heap_alloc_new W (.cells #[bv f] 5)))
  have hb3 := Lib.hid (hb1.out.trans (b3.mono hb1.out.size))
  have hs3 := Lib.hid b3.size
  have hWb := Lib.hid Hb.out.size
  obtain ⟨A3, c3', rfl, r3⟩ := Rd.of_own o3
  have hbn : ¬ (bs.length : Int) = 0 := by omega
  have hbb : ((bs.length : Int) == 0) = false := beq_eq_false_iff_ne.2 hbn
  clear c0 c1 c2 c3 c4 c5 c6 c7 c8 c9 ho1 hn1 hb1 b3 K4 Hn Hb
  generalize (W.alloc (.cells #[bv f] 5)).heap.size = B at o3 hg3 hs3
  generalize W.heap.size = G at hf3 hg3 hWb ⊢
  go_wp2_with fail
  refine (K5.out _).mono ?_
  rintro e w4 ⟨v4, rfl, o4, b4⟩
  obtain ⟨A4, c4, rfl, r4⟩ := Rd.of_own o4
  have ob4 := own_below o3 b4
  have hf4 := Lib.hid ((b4.block _ (lt_of_block hf3.out)).trans hf3.out)
  have hb4 := Lib.hid (hb3.out.trans (b4.mono hb3.out.size))
  have r3' := r3.belowTop b4
  have hs4 := Lib.hid (Nat.le_trans hs3.out b4.size)
  clear o4 hb3 r3 b4 o3 hf3 hs3
  go_wp2_with fail
  refine (K6.out _ _ _ _ _ r3' r4).mono ?_
  rintro e w5 ⟨v5, rfl, o5, b5⟩
  obtain ⟨A5, c5, rfl, r5⟩ := Rd.of_own o5
  have ob5 := own_below ob4 b5
  have hf5 := Lib.hid ((b5.block _ (lt_of_block hf4.out)).trans hf4.out)
  have hb5 := Lib.hid (hb4.out.trans (b5.mono hb4.out.size))
  have hs5 := Lib.hid (Nat.le_trans hs4.out b5.size)
  clear o5 ob4 hb4 r3' r4 b5 hf4 hs4
  go_wp2_with (at_builtin; (refine wpl_appendN Tryz.underlying27 Ck.Tryz.info5 rfl (.tmp 35) (.tmp 38) rfl B _ bs rfl ob5 _ c5 A5 t r5 rfl (by have := Hsl.out; omega) hs5.out ?_; intro v6 w6 o6 b6; rw [Hjb.out] at o6; obtain ⟨g6, c6, rfl, hB6, hg6, hR6⟩ := own_where o6 (by rw [hlen.out]; have := hm0.out; omega); rw [hlen.out]))
  have hf6 := Lib.hid ((b6.block _ hg3.out).trans hf5.out)
  have hb6 := Lib.hid (hb5.out.trans (b6.mono (Nat.le_trans hWb.out (Nat.le_of_lt hg3.out))))
  have HR := Lib.hid hR6
  have Hg6 := Lib.hid (And.intro hB6 hg6)
  clear o6 b6 hb5 hf5 ob5 r5 hR6 hB6 hg6
  go_loopw [3, 6] (fun o i wr => ∃ k : Nat, k ≤ m ∧ i = .int .i64 ((8 * k : Nat) : Int) ∧ wr.ownsRow w.heap.size 5 1 o ([f] ++ bytesN J k).length (([f] ++ bytesN J k).map bv) ∧ Below w.heap.size w wr ∧ wr.heap[g6]? = w6.heap[g6]? ∧ w6.heap.size ≤ wr.heap.size ∧ o.ownBlock ≠ some g6) (fun _ i _ => 8 * m - (intOf i).toNat)
  case atStart => exact ⟨0, Nat.zero_le _, rfl, own_block [f] hf6.out hWb.out (by simp), hb6.out, rfl, Nat.le_refl _, by show some G ≠ some g6; have h1 := Hg6.out.1; have h2 := hg3.out; intro e; injection e with e; omega⟩
  case round =>
    obtain ⟨k, hk, rfl, hown, hb, hh6, hsz, hne⟩ := hrel
    by_cases hlt : k < m
    · obtain ⟨A7, c7, hcut, hr7⟩ := Rd.cut (HR.out wr hh6) (lo := 8 * k) (hi := 8 * k + 8) (by omega) (by rw [hlen.out]; omega)
      rw [show 8 * k + 8 - 8 * k = 8 by omega] at hcut
      have hsl := fun W : World => Lv.slice_lh (some ⟨g6, 0, none⟩) (8 * m) c6 ((8 * k : Nat) : Int) ((8 * k : Nat) + 8 : Int) W (by omega) (by omega) (by have := (HR.out wr hh6).le; rw [hlen.out] at this; omega)
      rw [show (((8 * k : Nat) : Int)).toNat = 8 * k by omega, show (((8 * k : Nat) : Int) + 8).toNat = 8 * k + 8 by omega, hcut] at hsl
      have K := Lib.hid (K7.out wr _ A7 c7 k hlt hr7)
      have hcl : (((Ck.lowL J (8 * m)).take (8 * k + 8)).drop (8 * k)).length = 8 := by rw [List.length_drop, List.length_take, hlen.out]; omega
      rw [hcl] at K
      have hch := Lib.hid (Ck.chunk J m k hlt)
      have hys : ([f] ++ bytesN J k).length ≤ 100 := by rw [List.length_append, bytesN_len]; simp; omega
      have hnext := Lib.hid (show [f] ++ bytesN J (k + 1) = ([f] ++ bytesN J k) ++ [UInt8.ofNat (J / 2 ^ (8 * k))] by rw [bytesN_snoc, List.append_assoc])
      generalize [f] ++ bytesN J k = ys at hown hys hnext
      generalize UInt8.ofNat (J / 2 ^ (8 * k)) = y at hch hnext
      generalize Ck.numberL (((Ck.lowL J (8 * m)).take (8 * k + 8)).drop (8 * k)) = N at K hch
      have hy := Lib.hid (show Value.int .u8 ((N : Int) % 256) = bv y by rw [← hch.out]; show _ = Value.int .u8 _; rw [UInt8.toNat_ofNat']; congr 1)
      have hw8 : (((8 * k : Nat) : Int)) < ((8 * m : Nat) : Int) := by omega
      generalize hq : 8 * k = q at hsl hw8 ⊢
      have Hq := Lib.hid hq
      have hq6 : q ≤ 1000 := by omega
      have hm8 : ((8 * m : Nat) : Int) = 8 * (m : Int) := by omega
      clear hr7 hcut hcl hq
      go_wp2_with fail
      refine K.out.mono ?_
      rintro e w7 ⟨rfl, e7⟩
      rw [e7]
      clear e7 K hsl
      go_wp2_with (at_builtin; (refine wpl_append1g Tryz.underlying27 Ck.Tryz.info5 rfl (.tmp 46) (.tmp 54) rfl w.heap.size _ ys rfl hown y _ hy.out rfl (by omega) hb.size ?_; intro v8 w8 o8 b8 k8 n8))
      go_roundw
      case rel => exact ⟨k + 1, by omega, congrArg (Value.int .i64) (by have := Hq.out; omega), by rw [hnext.out]; exact o8, hb.trans b8, (k8 g6 (Nat.lt_of_lt_of_le Hg6.out.2 hsz) hne).trans hh6, Nat.le_trans hsz b8.size, n8.elim (fun h => h ▸ hne) (fun h => by rw [h]; intro e; injection e with e; have := Hg6.out.2; omega)⟩
      case measure => have := Hq.out; simp [intOf]; omega
    · obtain rfl : k = m := by omega
      go_wp2
      go_ret
      rw [HE.out]
      exact ⟨_, rfl, hown, hb⟩

theorem refEnc_any (w : World) (r : Rg) (ok : r.Ok) (A : Option Addr) (c : Nat) (xs : List UInt8) (h : Fit r xs) (hx : Rd w w.heap.size A c xs) (hd : r.data = .slice A xs.length c) (hl : xs.length ≤ 2000) :
    Calls Tryz.prog 13 #[.agg (pcells r)] w (ResO w 5 (encL r xs)) := by
  have h0 := h
  cases h with
  | tok hp h1 h2 h3 h4 h5 h6 h7 h8 h9 => subst h9; exact refEnc_num w r ok h0 (isD_false (by omega)) (by rw [fieldsL_tok hp]; decide)
  | sof hp h1 h2 h3 h4 h5 h6 h7 h8 h9 => subst h9; exact refEnc_num w r ok h0 (isD_false (by omega)) (by rw [hp]; decide)
  | split hp h1 h2 h3 h4 h5 h8 h9 => subst h9; exact refEnc_num w r ok h0 (isD_false (by omega)) (by rw [hp]; decide)
  | data hp => exact refEnc_data w r hp A c xs hx hd hl
  | bare hp h1 h2 h3 h4 h5 h6 h7 h8 h9 => subst h9; exact refEnc_bare w r hp

end Go.Proofs.YtfblpakoibadoaaGreatDoor
