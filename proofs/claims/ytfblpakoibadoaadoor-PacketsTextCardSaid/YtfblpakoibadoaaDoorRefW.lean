/-
  Helper text, several in one; no statement is proved here.
-/
import Derived.Test.YtfblpakoibadoaaDoorText5
import Derived.Test.YtfblpakoibadoaaDoorInj
namespace Go.Proofs.YtfblpakoibadoaaDoor
open Go Go.RowKit

theorem dec_small (w : World) (n : Nat) (h : n < 10) : Calls Tryd.prog 19 #[.int .i64 (n : Int)] w (ResS w (Lib.decDigits n)) := by
  have hd : Lib.decDigits n = [UInt8.ofNat (48 + n)] := by rw [Lib.decDigits, dif_pos h]
  rw [hd]
  clear hd
  have hn : n = 0 ∨ n = 1 ∨ n = 2 ∨ n = 3 ∨ n = 4 ∨ n = 5 ∨ n = 6 ∨ n = 7 ∨ n = 8 ∨ n = 9 := by omega
  rcases hn with rfl | rfl | rfl | rfl | rfl | rfl | rfl | rfl | rfl | rfl
  all_goals
    go_enter Tryd.func19, Tryd.ntmps19
    go_wp2
    go_ret
    exact ⟨congrArg Ending.returned (congrArg Value.string (by decide +kernel)), Below.refl _ _⟩

set_option maxHeartbeats 800000 in
set_option maxRecDepth 100000 in
theorem dec_core (w : World) (n : Nat) (hs : ¬ n < 10) (h6 : n < 1000000) (da db : List UInt8) (la : da.length ≤ 10) (lb : db.length ≤ 10)
    (KA : ∀ W, Calls Tryd.prog 19 #[.int .i64 ((n : Int) / 10)] W (ResS W da))
    (KB : ∀ W, Calls Tryd.prog 19 #[.int .i64 ((n : Int) % 10)] W (ResS W db)) :
    Calls Tryd.prog 19 #[.int .i64 (n : Int)] w (ResS w (da ++ db)) := by
  have KAh := Lib.hid KA
  have KBh := Lib.hid KB
  have h1 : ¬ ((n : Int) < 10) := by omega
  have h2 : (n : Int) < 1000000 := by omega
  have h3 := Lib.hid (app_str da db)
  have s1 : (⟨da.toArray⟩ : ByteArray).size ≤ 10 := by show da.toArray.size ≤ 10; simpa using la
  have s2 : (⟨db.toArray⟩ : ByteArray).size ≤ 10 := by show db.toArray.size ≤ 10; simpa using lb
  clear KA KB hs h6 la lb
  go_enter Tryd.func19, Tryd.ntmps19
  go_wp2_with fail
  refine (KAh.out w).mono ?_
  rintro e w1 ⟨rfl, b1⟩
  go_wp2_with fail
  refine (KBh.out _).mono ?_
  rintro e w2 ⟨rfl, b2⟩
  have hb2 := Lib.hid (b1.trans (b2.mono b1.size))
  clear b1 b2
  go_wp2
  go_ret
  rw [h3.out]
  exact ⟨rfl, hb2.out⟩

theorem dec_all : ∀ (k : Nat) (w : World) (n : Nat), n < 10 ^ (k + 1) → n < 1000000 → Calls Tryd.prog 19 #[.int .i64 (n : Int)] w (ResS w (Lib.decDigits n))
  | 0, w, n, h, _ => dec_small w n h
  | k + 1, w, n, h, h6 => by
    by_cases hs : n < 10
    · exact dec_small w n hs
    have KA := fun W => dec_all k W (n / 10) (by rw [Nat.pow_succ] at h; omega) (by omega)
    have KB := fun W => dec_small W (n % 10) (by omega)
    have hd : Lib.decDigits n = Lib.decDigits (n / 10) ++ Lib.decDigits (n % 10) := by
      rw [Lib.decDigits, dif_neg hs]
      congr 1
      rw [Lib.decDigits, dif_pos (by omega)]
    have e1 : ((n / 10 : Nat) : Int) = (n : Int) / 10 := by omega
    have e2 : ((n % 10 : Nat) : Int) = (n : Int) % 10 := by omega
    have la := digits_le 6 (n / 10) (by omega)
    have lb := digits_le 1 (n % 10) (by omega)
    rw [e1] at KA
    rw [e2] at KB
    rw [hd]
    exact dec_core w n hs h6 _ _ (by omega) (by omega) KA KB

end Go.Proofs.YtfblpakoibadoaaDoor

namespace Go.Proofs.YtfblpakoibadoaaDoor
open Go Go.RowKit

set_option maxHeartbeats 1600000 in
set_option maxRecDepth 100000 in
theorem name_any (w : World) (p : Nat) (hp : p = 1 ∨ p = 2 ∨ p = 3 ∨ p = 5 ∨ p = 6 ∨ p = 8 ∨ p = 9 ∨ p = 10 ∨ p = 11 ∨ p = 13 ∨ p = 14) :
    Calls Tryd.prog 17 #[.int .u8 (p : Int)] w (ResS w (pidL.getD p [])) := by
  rcases hp with rfl | rfl | rfl | rfl | rfl | rfl | rfl | rfl | rfl | rfl | rfl
  all_goals
    have hb := fun (o : Obj) => Lib.hid ((Below.refl w.heap.size w).alloc (Nat.le_refl _) o)
    go_enter Tryd.func17, Tryd.ntmps17
    go_wp2
    go_ret
    exact ⟨rfl, (hb _).out⟩

end Go.Proofs.YtfblpakoibadoaaDoor

namespace Go.Proofs.YtfblpakoibadoaaDoor
open Go Go.RowKit

theorem cut_hex (k : Nat) (h : k < 16) : (⟨#[48, 49, 50, 51, 52, 53, 54, 55, 56, 57, 97, 98, 99, 100, 101, 102]⟩ : ByteArray).extract k (k + 1) = ⟨[hexD k].toArray⟩ := by
  rcases (by omega : k = 0 ∨ k = 1 ∨ k = 2 ∨ k = 3 ∨ k = 4 ∨ k = 5 ∨ k = 6 ∨ k = 7 ∨ k = 8 ∨ k = 9 ∨ k = 10 ∨ k = 11 ∨ k = 12 ∨ k = 13 ∨ k = 14 ∨ k = 15) with rfl | rfl | rfl | rfl | rfl | rfl | rfl | rfl | rfl | rfl | rfl | rfl | rfl | rfl | rfl | rfl <;> decide +kernel

set_option maxHeartbeats 1600000 in
set_option maxRecDepth 100000 in
theorem rhex_any (w : World) (A : Option Addr) (c : Nat) (xs : List UInt8) (h : Rd w w.heap.size A c xs) (hl : xs.length ≤ 1024) :
    Calls Tryd.prog 20 #[.slice A xs.length c] w (ResS w (hexL xs)) := by
  go_enter Tryd.func20, Tryd.ntmps20
  go_wp2
  go_loopw [3, 4] (fun o i wr => ∃ k : Nat, k ≤ xs.length ∧ i = .int .i64 k ∧ o = sv (hexL (xs.take k)) ∧ Below w.heap.size w wr) (fun _ i _ => xs.length - (intOf i).toNat)
  case atStart => exact ⟨0, Nat.zero_le _, rfl, rfl, Below.refl _ _⟩
  case round =>
    obtain ⟨k, hk, rfl, rfl, hb⟩ := hrel
    by_cases hlt : k < xs.length
    · obtain ⟨b, off, rfl, hbB, hcell⟩ := (h.below hb).at_ hlt
      have hys : (hexL (xs.take k)).length ≤ 4096 := by rw [hexL_len, List.length_take]; omega
      have hnext := Lib.hid (show hexL (xs.take (k + 1)) = hexL (xs.take k) ++ [hexD ((xs.getD k 0).toNat / 16), hexD ((xs.getD k 0).toNat % 16)] by rw [take_snoc xs hlt, hexL_snoc])
      generalize xs.getD k 0 = x at hcell hnext
      have hx8 : x.toNat < 256 := x.toNat_lt
      replace hcell : wr.cell? ⟨b, off + k, none⟩ = some (.int .u8 (x.toNat : Int)) := hcell
      have i1 := Lib.hid (cut_hex (x.toNat / 16) (by omega))
      have i2 := Lib.hid (cut_hex (x.toNat % 16) (by omega))
      generalize x.toNat = y at hcell hx8 hnext i1 i2
      have hdiv : (y : Int) / 16 = ((y / 16 : Nat) : Int) := by omega
      have hmod : (y : Int) % 16 = ((y % 16 : Nat) : Int) := by omega
      have hdiv2 : (y : Int).tdiv 16 = ((y / 16 : Nat) : Int) := by rw [Int.tdiv_eq_ediv_of_nonneg (by omega)]; omega
      have hmod2 : (y : Int).tmod 16 = ((y % 16 : Nat) : Int) := by rw [Int.tmod_eq_emod_of_nonneg (by omega)]; omega
      have l1 : y / 16 < 16 := by omega
      have l2 : y % 16 < 16 := by omega
      generalize hexD (y / 16) = d1 at hnext i1
      generalize hexD (y % 16) = d2 at hnext i2
      generalize y / 16 = y1 at hdiv hdiv2 i1 l1
      generalize y % 16 = y2 at hmod hmod2 i2 l2
      generalize hexL (xs.take k) = zs at hys hnext ⊢
      have s1 : (⟨zs.toArray⟩ : ByteArray).size ≤ 4096 := by show zs.toArray.size ≤ 4096; simpa using hys
      have j1 := i1.out
      have j2 := i2.out
      go_wp2
      go_region
      have e1 : (⟨zs.toArray⟩ : ByteArray) ++ (⟨#[d1]⟩ ++ ⟨#[d2]⟩) = ⟨(zs ++ [d1, d2]).toArray⟩ := by
        rw [show (⟨#[d1]⟩ : ByteArray) ++ ⟨#[d2]⟩ = ⟨[d1, d2].toArray⟩ from app_str [d1] [d2], app_str zs [d1, d2]]
      rw [e1]
      clear e1 j1 j2 i1 i2
      go_wp2
      exact ⟨⟨k + 1, by omega, by go_num, by rw [hnext.out], hb.drew⟩, by simp [intOf]; omega⟩
    · obtain rfl : k = xs.length := by omega
      rw [List.take_length]
      go_wp2
      go_ret
      exact ⟨rfl, hb⟩

end Go.Proofs.YtfblpakoibadoaaDoor

namespace Go.Proofs.YtfblpakoibadoaaDoor
open Go Go.RowKit

set_option maxRecDepth 100000 in
theorem token_any (w : World) (p : Nat) (hp : p < 256) :
    Calls Tryd.prog 18 #[.int .u8 (p : Int)] w fun e w' => e = .returned (.bool (p == 1 || p == 9 || p == 13)) ∧ Below w.heap.size w w' := by
  by_cases h1 : p = 1
  · subst h1
    go_enter Tryd.func18, Tryd.ntmps18
    go_wp2
    go_ret
    exact ⟨rfl, Below.refl _ _⟩
  by_cases h9 : p = 9
  · subst h9
    go_enter Tryd.func18, Tryd.ntmps18
    go_wp2
    go_ret
    exact ⟨rfl, Below.refl _ _⟩
  by_cases h13 : p = 13
  · subst h13
    go_enter Tryd.func18, Tryd.ntmps18
    go_wp2
    go_ret
    exact ⟨rfl, Below.refl _ _⟩
  have e : (p == 1 || p == 9 || p == 13) = false := by simp [h1, h9, h13]
  rw [e]
  have g1 : ((p : Int) == 1) = false := beq_eq_false_iff_ne.2 (by omega)
  have g9 : ((p : Int) == 9) = false := beq_eq_false_iff_ne.2 (by omega)
  have g13 : ((p : Int) == 13) = false := beq_eq_false_iff_ne.2 (by omega)
  clear e h1 h9 h13
  go_enter Tryd.func18, Tryd.ntmps18
  go_wp2
  go_ret
  exact ⟨rfl, Below.refl _ _⟩

end Go.Proofs.YtfblpakoibadoaaDoor

namespace Go.Proofs.YtfblpakoibadoaaDoor
open Go Go.RowKit

set_option maxHeartbeats 1600000 in
set_option maxRecDepth 100000 in
theorem rtext_tok (w : World) (r : Rg) (ok : r.Ok) (A : Option Addr) (n c : Nat) (hd : r.data = .slice A n c) (hp : r.pid = 1 ∨ r.pid = 9 ∨ r.pid = 13) :
    Calls Tryd.prog 10 #[.agg (pcells r)] w (ResS w (Lib.join (pidL.getD r.pid [] :: [Lib.decDigits r.addr ++ [46] ++ Lib.decDigits r.endp]) [32]) ) := by
  have HJ : Lib.join (pidL.getD r.pid [] :: [Lib.decDigits r.addr ++ [46] ++ Lib.decDigits r.endp]) [32] = (((pidL.getD r.pid [] ++ [32]) ++ Lib.decDigits r.addr) ++ [46]) ++ Lib.decDigits r.endp := by
    rw [Lib.join_cons, tail_cons]
    simp [Lib.joinTail]
  rw [HJ]
  clear HJ
  have KN := fun W => name_any W r.pid (by omega)
  have KT := fun W => token_any W r.pid ok.pid
  rw [show (r.pid == 1 || r.pid == 9 || r.pid == 13) = true by rcases hp with h | h | h <;> rw [h] <;> rfl] at KT
  have KA := fun W => dec_all 3 W r.addr (Nat.lt_trans ok.addr (by decide)) (Nat.lt_trans ok.addr (by decide))
  have KE := fun W => dec_all 3 W r.endp (Nat.lt_trans ok.endp (by decide)) (Nat.lt_trans ok.endp (by decide))
  have ln := pidL_le r.pid
  have la := digits_le 3 r.addr (Nat.lt_trans ok.addr (by decide))
  have le := digits_le 3 r.endp (Nat.lt_trans ok.endp (by decide))
  generalize pidL.getD r.pid [] = nm at KN ln ⊢
  generalize Lib.decDigits r.addr = da at KA la ⊢
  generalize Lib.decDigits r.endp = de at KE le ⊢
  obtain ⟨sn, hsn⟩ : ∃ sn, (⟨(nm).toArray⟩ : ByteArray) = sn := ⟨_, rfl⟩
  have zsn : sn.size ≤ 5 := by rw [← hsn]; show (nm).toArray.size ≤ 5; simpa using ln
  delta ResS at KN
  simp only [sv] at KN
  rw [hsn] at KN
  replace hsn := Lib.hid hsn
  obtain ⟨sa, hsa⟩ : ∃ sa, (⟨(da).toArray⟩ : ByteArray) = sa := ⟨_, rfl⟩
  have zsa : sa.size ≤ 4 := by rw [← hsa]; show (da).toArray.size ≤ 4; simpa using la
  delta ResS at KA
  simp only [sv] at KA
  rw [hsa] at KA
  replace hsa := Lib.hid hsa
  obtain ⟨se, hse⟩ : ∃ se, (⟨(de).toArray⟩ : ByteArray) = se := ⟨_, rfl⟩
  have zse : se.size ≤ 4 := by rw [← hse]; show (de).toArray.size ≤ 4; simpa using le
  delta ResS at KE
  simp only [sv] at KE
  rw [hse] at KE
  replace hse := Lib.hid hse
  obtain ⟨L, hL⟩ : ∃ L, (((nm ++ [32]) ++ da) ++ [46]) ++ de = L := ⟨_, rfl⟩
  have HF := Lib.hid (show (((sn ++ (⟨#[32]⟩ : ByteArray)) ++ sa) ++ (⟨#[46]⟩ : ByteArray)) ++ se = ⟨L.toArray⟩ by
    rw [← hL, ← hsn.out, ← hsa.out, ← hse.out, ← app_str, ← app_str, ← app_str, ← app_str])
  rw [hL]
  clear hL
  have u1 : IntKind.i64.wrap (r.addr : Int) = (r.addr : Int) := IntWalk.i64_in _ (by have := ok.addr; omega)
  have u2 : IntKind.i64.wrap (r.endp : Int) = (r.endp : Int) := IntWalk.i64_in _ (by have := ok.endp; omega)
  have b0 := ok.pid
  have b1 := ok.addr
  have b2 := ok.endp
  obtain ⟨p0, p1, p2, p3, p4, p5, p6, p7, p8, p9, p10⟩ := r
  simp only at hd hp KN KT KA KE b0 b1 b2 u1 u2
  subst hd
  simp only [pcells]
  have KNh := Lib.hid KN
  have KTh := Lib.hid KT
  have KAh := Lib.hid KA
  have KEh := Lib.hid KE
  clear KN KT KA KE ln la le ok hp
  have hb0 := Lib.hid (heap_alloc_new w (.cells #[.int .u8 (p0 : Int), .int .u8 (p1 : Int), .int .u8 (p2 : Int), .int .u16 (p3 : Int), .int .u8 (p4 : Int), .int .u8 (p5 : Int), .bool p6, .bool p7, .int .u8 (p8 : Int), .slice A n c] 29))
  have hbW := Lib.hid ((Below.refl w.heap.size w).alloc (Nat.le_refl _) (.cells #[.int .u8 (p0 : Int), .int .u8 (p1 : Int), .int .u8 (p2 : Int), .int .u16 (p3 : Int), .int .u8 (p4 : Int), .int .u8 (p5 : Int), .bool p6, .bool p7, .int .u8 (p8 : Int), .slice A n c] 29))
  go_enter Tryd.func10, Tryd.ntmps10
  go_wp2_with fail
  refine (KNh.out _).mono ?_
  rintro e w1 ⟨rfl, B1⟩
  have d1 := Lib.hid ((B1.block _ (lt_of_block hb0.out)).trans hb0.out)
  have e1 := Lib.hid (hbW.out.trans (B1.mono hbW.out.size))
  have c0 : w1.cell? ⟨w.heap.size, 0, none⟩ = some (.int .u8 (p0 : Int)) := cell_at d1.out 0
  clear B1 hb0 hbW
  go_wp2_with fail
  refine (KTh.out _).mono ?_
  rintro e w2 ⟨rfl, B2⟩
  have d2 := Lib.hid ((B2.block _ (lt_of_block d1.out)).trans d1.out)
  have e2 := Lib.hid (e1.out.trans (B2.mono e1.out.size))
  clear B2 c0 d1 e1
  go_wp2_with fail
  refine startG 14 (l := #[false, false, false, false, false, false, false, false, false, false, false, false, false, false]) (by kernel_rfl) rfl rfl ?_
  have c1 : Hid (∀ W, Gr (World.drew w2) W → W.cell? ⟨w.heap.size, 1, none⟩ = some (.int .u8 (p1 : Int))) := fun W hW => cell_at ((hW.block w.heap.size (lt_of_block d2.out)).trans d2.out) 1
  have c2 : Hid (∀ W, Gr (World.drew w2) W → W.cell? ⟨w.heap.size, 2, none⟩ = some (.int .u8 (p2 : Int))) := fun W hW => cell_at ((hW.block w.heap.size (lt_of_block d2.out)).trans d2.out) 2
  have e3 : Hid (Below w.heap.size w (World.drew w2)) := Lib.hid e2.out.drew
  clear d2 e2
  generalize World.drew w2 = W2 at c1 c2 e3 ⊢
  ((first | (refine takeG 0 (v := ?_) rfl (by decide +kernel) (by decide +kernel) (by decide +kernel) (fun _ _ _ h => h) (Or.inl ⟨by rfl, ?_⟩) ?_; rotate_left 1; (focus (intro W hW; go_simp; first | done | with_reducible rfl)); try simp only [Act.put, List.setIfInBounds_toArray, List.set_cons_zero, List.set_cons_succ]) | (refine takeG 0 rfl (by decide +kernel) (by decide +kernel) (by decide +kernel) (fun _ _ _ h => h) (Or.inr ⟨by rfl, rfl⟩) ?_; try simp only [Act.put, List.setIfInBounds_toArray, List.set_cons_zero, List.set_cons_succ]) | skip))
  refine takeG 1 (v := .string (sn ++ (⟨#[32]⟩ : ByteArray))) rfl (by decide +kernel) (by decide +kernel) (by decide +kernel) (fun _ _ _ h => h) (Or.inl ⟨by rfl, ?_⟩) ?_
  · intro W hW
    go_simp
    first | done | omega | with_reducible rfl
  try simp only [Act.put, List.setIfInBounds_toArray, List.set_cons_zero, List.set_cons_succ]
  ((first | (refine takeG 2 (v := ?_) rfl (by decide +kernel) (by decide +kernel) (by decide +kernel) (fun _ _ _ h => h) (Or.inl ⟨by rfl, ?_⟩) ?_; rotate_left 1; (focus (intro W hW; go_simp; first | done | with_reducible rfl)); try simp only [Act.put, List.setIfInBounds_toArray, List.set_cons_zero, List.set_cons_succ]) | (refine takeG 2 rfl (by decide +kernel) (by decide +kernel) (by decide +kernel) (fun _ _ _ h => h) (Or.inr ⟨by rfl, rfl⟩) ?_; try simp only [Act.put, List.setIfInBounds_toArray, List.set_cons_zero, List.set_cons_succ]) | skip))
  refine takeG 3 (v := .int .u8 (p1 : Int)) rfl (by decide +kernel) (by decide +kernel) (by decide +kernel) (fun _ _ _ h => h) (Or.inl ⟨by rfl, ?_⟩) ?_
  · intro W hW
    have q := c1.out W hW
    go_simp
    first | done | omega | with_reducible rfl
  try simp only [Act.put, List.setIfInBounds_toArray, List.set_cons_zero, List.set_cons_succ]
  ((first | (refine takeG 4 (v := ?_) rfl (by decide +kernel) (by decide +kernel) (by decide +kernel) (fun _ _ _ h => h) (Or.inl ⟨by rfl, ?_⟩) ?_; rotate_left 1; (focus (intro W hW; go_simp; first | done | with_reducible rfl)); try simp only [Act.put, List.setIfInBounds_toArray, List.set_cons_zero, List.set_cons_succ]) | (refine takeG 4 rfl (by decide +kernel) (by decide +kernel) (by decide +kernel) (fun _ _ _ h => h) (Or.inr ⟨by rfl, rfl⟩) ?_; try simp only [Act.put, List.setIfInBounds_toArray, List.set_cons_zero, List.set_cons_succ]) | skip))
  ((first | (refine takeG 8 (v := ?_) rfl (by decide +kernel) (by decide +kernel) (by decide +kernel) (fun _ _ _ h => h) (Or.inl ⟨by rfl, ?_⟩) ?_; rotate_left 1; (focus (intro W hW; go_simp; first | done | with_reducible rfl)); try simp only [Act.put, List.setIfInBounds_toArray, List.set_cons_zero, List.set_cons_succ]) | (refine takeG 8 rfl (by decide +kernel) (by decide +kernel) (by decide +kernel) (fun _ _ _ h => h) (Or.inr ⟨by rfl, rfl⟩) ?_; try simp only [Act.put, List.setIfInBounds_toArray, List.set_cons_zero, List.set_cons_succ]) | skip))
  refine takeG 9 (v := .int .u8 (p2 : Int)) rfl (by decide +kernel) (by decide +kernel) (by decide +kernel) (fun _ _ _ h => h) (Or.inl ⟨by rfl, ?_⟩) ?_
  · intro W hW
    have q := c2.out W hW
    go_simp
    first | done | omega | with_reducible rfl
  try simp only [Act.put, List.setIfInBounds_toArray, List.set_cons_zero, List.set_cons_succ]
  ((first | (refine takeG 10 (v := ?_) rfl (by decide +kernel) (by decide +kernel) (by decide +kernel) (fun _ _ _ h => h) (Or.inl ⟨by rfl, ?_⟩) ?_; rotate_left 1; (focus (intro W hW; go_simp; first | done | with_reducible rfl)); try simp only [Act.put, List.setIfInBounds_toArray, List.set_cons_zero, List.set_cons_succ]) | (refine takeG 10 rfl (by decide +kernel) (by decide +kernel) (by decide +kernel) (fun _ _ _ h => h) (Or.inr ⟨by rfl, rfl⟩) ?_; try simp only [Act.put, List.setIfInBounds_toArray, List.set_cons_zero, List.set_cons_succ]) | skip))
  refine stepG 5 rfl (by decide +kernel) (by rfl) ?_
  intro K hK
  go_simp
  refine (KAh.out _).mono ?_
  rintro e w4 ⟨rfl, b4⟩
  refine hK _ _ b4 ?_
  clear hK K
  try simp only [Act.put, List.setIfInBounds_toArray, List.set_cons_zero, List.set_cons_succ]
  refine takeG 6 (v := .string ((sn ++ (⟨#[32]⟩ : ByteArray)) ++ sa)) rfl (by decide +kernel) (by decide +kernel) (by decide +kernel) (fun _ _ _ h => h) (Or.inl ⟨by rfl, ?_⟩) ?_
  · intro W hW
    go_simp
    first | done | omega | with_reducible rfl
  try simp only [Act.put, List.setIfInBounds_toArray, List.set_cons_zero, List.set_cons_succ]
  refine takeG 7 (v := .string (((sn ++ (⟨#[32]⟩ : ByteArray)) ++ sa) ++ (⟨#[46]⟩ : ByteArray))) rfl (by decide +kernel) (by decide +kernel) (by decide +kernel) (fun _ _ _ h => h) (Or.inl ⟨by rfl, ?_⟩) ?_
  · intro W hW
    go_simp
    first | done | omega | with_reducible rfl
  try simp only [Act.put, List.setIfInBounds_toArray, List.set_cons_zero, List.set_cons_succ]
  refine stepG 11 rfl (by decide +kernel) (by rfl) ?_
  intro K hK
  go_simp
  refine (KEh.out _).mono ?_
  rintro e w5 ⟨rfl, b5⟩
  refine hK _ _ b5 ?_
  clear hK K
  try simp only [Act.put, List.setIfInBounds_toArray, List.set_cons_zero, List.set_cons_succ]
  refine takeG 12 (v := .string ((((sn ++ (⟨#[32]⟩ : ByteArray)) ++ sa) ++ (⟨#[46]⟩ : ByteArray)) ++ se)) rfl (by decide +kernel) (by decide +kernel) (by decide +kernel) (fun _ _ _ h => h) (Or.inl ⟨by rfl, ?_⟩) ?_
  · intro W hW
    go_simp
    first | done | omega | with_reducible rfl
  try simp only [Act.put, List.setIfInBounds_toArray, List.set_cons_zero, List.set_cons_succ]
  ((first | (refine takeG 13 (v := ?_) rfl (by decide +kernel) (by decide +kernel) (by decide +kernel) (fun _ _ _ h => h) (Or.inl ⟨by rfl, ?_⟩) ?_; rotate_left 1; (focus (intro W hW; go_simp; first | done | with_reducible rfl)); try simp only [Act.put, List.setIfInBounds_toArray, List.set_cons_zero, List.set_cons_succ]) | (refine takeG 13 rfl (by decide +kernel) (by decide +kernel) (by decide +kernel) (fun _ _ _ h => h) (Or.inr ⟨by rfl, rfl⟩) ?_; try simp only [Act.put, List.setIfInBounds_toArray, List.set_cons_zero, List.set_cons_succ]) | skip))
  refine doneG (by kernel_rfl) ?_
  have e5 := Lib.hid (e3.out.trans ((Gr.trans b4 b5).mono e3.out.size))
  clear c1 c2 b4 b5
  go_wp2
  go_ret
  rw [HF.out]
  exact ⟨rfl, e5.out⟩

end Go.Proofs.YtfblpakoibadoaaDoor

namespace Go.Proofs.YtfblpakoibadoaaDoor
open Go Go.RowKit

set_option maxHeartbeats 1600000 in
set_option maxRecDepth 100000 in
theorem rtext_sof (w : World) (r : Rg) (ok : r.Ok) (A : Option Addr) (n c : Nat) (hd : r.data = .slice A n c) (hp : r.pid = 5) :
    Calls Tryd.prog 10 #[.agg (pcells r)] w (ResS w (Lib.join (pidL.getD r.pid [] :: [Lib.decDigits r.frame]) [32])) := by
  have HJ : Lib.join (pidL.getD r.pid [] :: [Lib.decDigits r.frame]) [32] = (pidL.getD r.pid [] ++ [32]) ++ Lib.decDigits r.frame := by
    rw [Lib.join_cons, tail_cons]
    simp [Lib.joinTail]
  rw [HJ]
  clear HJ
  have KN := fun W => name_any W r.pid (by omega)
  have KT := fun W => token_any W r.pid ok.pid
  rw [show (r.pid == 1 || r.pid == 9 || r.pid == 13) = false by rw [hp]; rfl] at KT
  have KA := fun W => dec_all 5 W r.frame (Nat.lt_trans ok.frame (by decide)) (Nat.lt_trans ok.frame (by decide))
  have ln := pidL_le r.pid
  have la := digits_le 5 r.frame (Nat.lt_trans ok.frame (by decide))
  generalize pidL.getD r.pid [] = nm at KN ln ⊢
  generalize Lib.decDigits r.frame = da at KA la ⊢
  obtain ⟨sn, hsn⟩ : ∃ sn, (⟨(nm).toArray⟩ : ByteArray) = sn := ⟨_, rfl⟩
  have zsn : sn.size ≤ 5 := by rw [← hsn]; show (nm).toArray.size ≤ 5; simpa using ln
  delta ResS at KN
  simp only [sv] at KN
  rw [hsn] at KN
  replace hsn := Lib.hid hsn
  obtain ⟨sa, hsa⟩ : ∃ sa, (⟨(da).toArray⟩ : ByteArray) = sa := ⟨_, rfl⟩
  have zsa : sa.size ≤ 6 := by rw [← hsa]; show (da).toArray.size ≤ 6; simpa using la
  delta ResS at KA
  simp only [sv] at KA
  rw [hsa] at KA
  replace hsa := Lib.hid hsa
  obtain ⟨L, hL⟩ : ∃ L, (nm ++ [32]) ++ da = L := ⟨_, rfl⟩
  have HF := Lib.hid (show (sn ++ (⟨#[32]⟩ : ByteArray)) ++ sa = ⟨L.toArray⟩ by
    rw [← hL, ← hsn.out, ← hsa.out, ← app_str, ← app_str])
  rw [hL]
  clear hL
  have u1 : IntKind.i64.wrap (r.frame : Int) = (r.frame : Int) := IntWalk.i64_in _ (by have := ok.frame; omega)
  have b0 := ok.pid
  have b1 := ok.frame
  obtain ⟨p0, p1, p2, p3, p4, p5, p6, p7, p8, p9, p10⟩ := r
  simp only at hd hp KN KT KA b0 b1 u1
  subst hd hp
  simp only [pcells]
  have KNh := Lib.hid KN
  have KTh := Lib.hid KT
  have KAh := Lib.hid KA
  clear KN KT KA ln la ok
  have hb0 := Lib.hid (heap_alloc_new w (.cells #[.int .u8 5, .int .u8 (p1 : Int), .int .u8 (p2 : Int), .int .u16 (p3 : Int), .int .u8 (p4 : Int), .int .u8 (p5 : Int), .bool p6, .bool p7, .int .u8 (p8 : Int), .slice A n c] 29))
  have hbW := Lib.hid ((Below.refl w.heap.size w).alloc (Nat.le_refl _) (.cells #[.int .u8 5, .int .u8 (p1 : Int), .int .u8 (p2 : Int), .int .u16 (p3 : Int), .int .u8 (p4 : Int), .int .u8 (p5 : Int), .bool p6, .bool p7, .int .u8 (p8 : Int), .slice A n c] 29))
  go_enter Tryd.func10, Tryd.ntmps10
  go_wp2_with fail
  refine (KNh.out _).mono ?_
  rintro e w1 ⟨rfl, B1⟩
  have d1 := Lib.hid ((B1.block _ (lt_of_block hb0.out)).trans hb0.out)
  have e1 := Lib.hid (hbW.out.trans (B1.mono hbW.out.size))
  have c0 : w1.cell? ⟨w.heap.size, 0, none⟩ = some (.int .u8 5) := cell_at d1.out 0
  clear B1 hb0 hbW
  go_wp2_with fail
  refine (KTh.out _).mono ?_
  rintro e w2 ⟨rfl, B2⟩
  have d2 := Lib.hid ((B2.block _ (lt_of_block d1.out)).trans d1.out)
  have e2 := Lib.hid (e1.out.trans (B2.mono e1.out.size))
  clear B2 c0 d1 e1
  have c0 : w2.cell? ⟨w.heap.size, 0, none⟩ = some (.int .u8 5) := cell_at d2.out 0
  have c3 : w2.cell? ⟨w.heap.size, 3, none⟩ = some (.int .u16 (p3 : Int)) := cell_at d2.out 3
  clear d2
  go_wp2_with fail
  refine (KAh.out _).mono ?_
  rintro e w4 ⟨rfl, b4⟩
  have e5 := Lib.hid (e2.out.trans (b4.mono e2.out.size))
  clear c0 c3 e2 b4
  go_wp2
  go_ret
  rw [HF.out]
  exact ⟨rfl, e5.out⟩

end Go.Proofs.YtfblpakoibadoaaDoor

