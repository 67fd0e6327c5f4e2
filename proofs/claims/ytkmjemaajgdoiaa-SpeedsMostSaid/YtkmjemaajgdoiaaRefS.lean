/-
  Helper text: contracts of the reference of layer 4; no statement is proved here.
-/
import Derived.Test.YtkmjemaajgdoiaaLives
namespace Go.Proofs.Ytkmjemaajgdoiaa
open Go Go.RowKit

def onesF (_ : Nat) : UInt8 := 255
theorem fill_ones (n : Nat) : fillL n n onesF = List.replicate n 255 := by
  rw [fillL_full]
  apply List.ext_getElem
  · simp
  · intro i h1 h2
    simp [onesF]

set_option maxHeartbeats 800000 in
set_option maxRecDepth 100000 in
theorem refWorst_any (w : World) (n : Nat) (h : n ≤ 1100) : Calls Try.prog 27 #[.int .i64 (n : Int)] w (ResZ w (worstN n)) := by
  have hmk := fun W : World => Lv.make_full (n : Int) W (by omega) (by omega)
  rw [show (n : Int).toNat = n from by omega] at hmk
  go_enter Try.func27, Try.ntmps27
  go_wp2
  clear hmk
  go_loopw [4] (fun i wr => ∃ k : Nat, k ≤ n ∧ i = .int .i64 k ∧ Row wr w.heap.size 5 (fillL n k onesF) ∧ Below w.heap.size w wr) (fun i _ => n - (intOf i).toNat)
  case atStart => exact ⟨0, Nat.zero_le _, rfl, by rw [fillL_zero]; exact Row.made w _ _, (Below.refl _ _).alloc (Nat.le_refl _) _⟩
  case round =>
    obtain ⟨k, hk, rfl, hrow, hb⟩ := hrel
    by_cases hlt : k < n
    · have hc2 := hrow.cell (i := k) (by rw [fillL_len]; exact hlt)
      have hf2 := hrow.frozen k
      have hset := hrow.set k (y := onesF k) (u := .int .u8 255) rfl
      rw [fillL_set] at hset
      generalize (fillL n k onesF).getD k 0 = old at hc2
      have Hset := Lib.hid hset
      clear hset
      go_wp2
      go_roundw
      case rel => exact ⟨k + 1, by omega, by go_num, Hset.out, hb.setCell (Nat.le_refl _) _⟩
      case measure => simp [intOf]; omega
    · have hk9 : k = n := by omega
      subst hk9
      have hrd := hrow.rd (by rw [fillL_len]; omega)
      rw [fill_ones, List.length_replicate] at hrd
      have K := Lib.hid (Lv.refSend_own wr _ _ _ (by exact hrd) (by rw [List.length_replicate]; omega))
      rw [List.length_replicate] at K
      have hso := Lv.sendL_ones k
      generalize Lv.sendL (List.replicate k 255) = ls at K hso
      have Hso := Lib.hid hso
      clear hrow hrd hso
      go_wp2_with fail
      refine K.out.mono ?_
      rintro e w1 ⟨v1, rfl, o1, b1⟩
      obtain ⟨A1, c1, rfl, r1⟩ := Rd.of_own o1
      clear K o1
      go_wp2
      go_ret
      exact ⟨by rw [Hso.out]; rfl, hb.trans (b1.mono hb.size)⟩

/-- The bit times of packets of these numbers of bytes, each with its gap. -/
def sumN (ns : List Nat) : Nat := (ns.map fun n => worstN n + 8).sum
theorem sumN_snoc (ns : List Nat) {k : Nat} (h : k < ns.length) : sumN (ns.take (k + 1)) = sumN (ns.take k) + (worstN (ns.getD k 0) + 8) := by
  have e : ns.take (k + 1) = ns.take k ++ [ns.getD k 0] := by
    rw [List.take_add_one, List.getElem?_eq_getElem h]
    simp [List.getD, List.getElem?_eq_getElem h]
  unfold sumN
  rw [e]
  simp only [List.map_append, List.sum_append, List.map_cons, List.map_nil, List.sum_cons, List.sum_nil, Nat.add_zero]
theorem sumN_le (ns : List Nat) (h : ∀ n ∈ ns, n ≤ 1100) : sumN ns ≤ 20008 * ns.length := by
  unfold sumN
  induction ns with
  | nil => simp
  | cons n ns ih =>
    have h1 := ih fun m hm => h m (List.mem_cons_of_mem _ hm)
    have h2 := worstN_le (n := n) (by have := h n List.mem_cons_self; omega)
    simp only [List.map_cons, List.sum_cons, List.length_cons]
    omega

set_option maxHeartbeats 800000 in
set_option maxRecDepth 100000 in
theorem sum_any (w : World) (A : Option Addr) (c : Nat) (ns : List Nat) (zs : List Int) (hz : zs = ns.map fun n => ((n : Nat) : Int)) (h : RdI w w.heap.size A c zs) (hl : ns.length ≤ 100) (hm : ∀ n ∈ ns, n ≤ 1100) :
    Calls Try.prog 21 #[.slice A zs.length c] w (ResZ w (sumN ns)) := by
  have hzl : zs.length = ns.length := by rw [hz, List.length_map]
  rw [hzl]
  have Hzl := Lib.hid hzl
  obtain ⟨T, hT⟩ : ∃ T, sumN ns = T := ⟨_, rfl⟩
  rw [hT]
  have HT := Lib.hid hT
  clear hzl hT
  go_enter Try.func21, Try.ntmps21
  go_wp2
  go_loopw [3, 4] (fun s i wr => ∃ k : Nat, k ≤ ns.length ∧ i = .int .i64 k ∧ s = .int .i64 ((sumN (ns.take k) : Nat) : Int) ∧ Below w.heap.size w wr) (fun _ i _ => ns.length - (intOf i).toNat)
  case atStart => exact ⟨0, Nat.zero_le _, rfl, rfl, Below.refl _ _⟩
  case round =>
    obtain ⟨k, hk, rfl, rfl, hb⟩ := hrel
    have hsl := sumN_le (ns.take k) (fun n hn => hm n (List.mem_of_mem_take hn))
    rw [List.length_take] at hsl
    have hsl2 : sumN (ns.take k) ≤ 3000000 := by omega
    by_cases hlt : k < ns.length
    · obtain ⟨b, off, rfl, hbB, hcell0⟩ := (h.below hb).at_ (k := k) (by rw [Hzl.out]; exact hlt)
      have hcell : wr.cell? ⟨b, off + k, none⟩ = some (.int .i64 ((ns.getD k 0 : Nat) : Int)) := by
        rw [hcell0, hz]
        simp [List.getD, List.getElem?_map, List.getElem?_eq_getElem hlt]
      have hsn := sumN_snoc ns hlt
      have hx : ns.getD k 0 ≤ 1100 := by
        have : ns.getD k 0 = ns[k] := by simp [List.getD, List.getElem?_eq_getElem hlt]
        rw [this]; exact hm _ (List.getElem_mem hlt)
      generalize ns.getD k 0 = x at hcell hsn hx
      have K := Lib.hid (refWorst_any wr x hx)
      have hwx := worstN_le (n := x) (by omega)
      generalize worstN x = y at K hsn hwx
      generalize sumN (ns.take k) = S at hsn hsl hsl2
      have Hsn := Lib.hid hsn
      clear hsn hcell0 hsl
      go_wp2_with fail
      refine K.out.mono ?_
      rintro e w1 ⟨rfl, b1⟩
      clear K
      go_wp2
      go_roundw
      case rel => exact ⟨k + 1, by omega, by go_num, by rw [Hsn.out]; go_num, hb.trans (b1.mono hb.size)⟩
      case measure => simp [intOf]; omega
    · have hk9 : k = ns.length := by omega
      subst hk9
      rw [List.take_length, HT.out] at hsl2 ⊢
      go_wp2
      go_ret
      exact ⟨rfl, hb⟩

theorem worst3 : worstN 3 = 39 := rfl
theorem worst4 : worstN 4 = 48 := rfl
theorem worst1 : worstN 1 = 20 := rfl

set_option maxHeartbeats 800000 in
set_option maxRecDepth 100000 in
theorem refCost_any (w : World) (s k n : Nat) (hs : s < 256) (hk : k < 256) (hn : n ≤ 1024) : Calls Try.prog 9 #[.int .i64 (s : Int), .int .i64 (k : Int), .int .i64 (n : Int)] w (ResZ w (costN s k n)) := by
  have ho := ownI_built w 3 [3, (n : Int) + 3] (by simp)
  have hb := (Below.refl w.heap.size w).alloc (Nat.le_refl _) (.cells #[.int .i64 3, .int .i64 ((n : Int) + 3)] 3)
  have hT := transN_le (k := k) hn
  have ht : ∀ ns, transN k n = sumN ns → costN s k n = if s = 0 then 8 * sumN ns else sumN ns := fun ns e => by
    unfold costN; rw [e]; split <;> omega
  have hall : ∀ m ∈ [3, n + 3, 1], m ≤ 1100 := by simp; omega
  have hall2 : ∀ m ∈ [3, n + 3], m ≤ 1100 := by simp; omega
  by_cases hk1 : k = 1
  · have e : transN k n = sumN [3, n + 3] := by simp [transN, sumN, worst3, hk1]
    have ht := Lib.hid (ht _ e)
    rw [e] at hT
    subst hk1
    obtain ⟨A, c, e1, hr⟩ := RdI.of_own ho
    injection e1 with e2 e3 e4
    subst e2; subst e4
    have K := Lib.hid (sum_any _ _ _ [3, n + 3] [3, (n : Int) + 3] (by simp) hr (by simp) hall2)
    generalize sumN [3, n + 3] = S at K ht hT
    generalize costN s 1 n = C at ht ⊢
    by_cases h0 : s = 0
    · subst h0
      have hC : C = 8 * S := by simpa using ht.out
      subst hC
      clear ht ho hr e
      go_enter Try.func9, Try.ntmps9
      go_wp2_with fail
      refine K.out.mono ?_
      rintro e w1 ⟨rfl, b1⟩
      go_wp2
      go_ret
      exact ⟨by congr 2, hb.trans (b1.mono hb.size)⟩
    · have hC : C = S := by have := ht.out; rwa [if_neg h0] at this
      subst hC
      have h0i : ¬ (s : Int) = 0 := by omega
      have h0b : ((s : Int) == 0) = false := by rw [beq_eq_false_iff_ne]; exact h0i
      clear ht ho hr e
      go_enter Try.func9, Try.ntmps9
      go_wp2_with fail
      refine K.out.mono ?_
      rintro e w1 ⟨rfl, b1⟩
      go_wp2
      go_ret
      exact ⟨rfl, hb.trans (b1.mono hb.size)⟩
  · have e : transN k n = sumN [3, n + 3, 1] := by simp [transN, sumN, worst3, worst1, hk1]; omega
    have ht := Lib.hid (ht _ e)
    rw [e] at hT
    have hki : ¬ (k : Int) = 1 := by omega
    have hkb : ((k : Int) == 1) = false := by rw [beq_eq_false_iff_ne]; exact hki
    have K := Lib.hid fun W A c hr => sum_any W A c [3, n + 3, 1] [3, (n : Int) + 3, 1] (by simp) hr (by simp) hall
    generalize sumN [3, n + 3, 1] = S at K ht hT
    generalize costN s k n = C at ht ⊢
    by_cases h0 : s = 0
    · subst h0
      have hC : C = 8 * S := by simpa using ht.out
      subst hC
      clear ht e
      go_enter Try.func9, Try.ntmps9
      go_wp2_with (at_builtin; refine wpl_appendI Try.underlying37 Try.info3 rfl (.tmp 13) (.tmp 14) rfl w.heap.size _ [3, (n : Int) + 3] rfl ho 1 (by show Value.slice (some ⟨w.heap.size + 1, 0, none⟩) 1 1 = _; simp) (by simp) hb.size ?_; intro v' w1 hown2 hb2; obtain ⟨A1, c1, rfl, hr1⟩ := RdI.of_own hown2)
      refine (K.out _ _ _ hr1).mono ?_
      rintro e w2 ⟨rfl, b2⟩
      have hb3 := hb.trans hb2
      have b2 := hb3.trans (b2.mono hb3.size)
      go_wp2
      go_ret
      exact ⟨by congr 2, b2⟩
    · have hC : C = S := by have := ht.out; rwa [if_neg h0] at this
      subst hC
      have h0i : ¬ (s : Int) = 0 := by omega
      have h0b : ((s : Int) == 0) = false := by rw [beq_eq_false_iff_ne]; exact h0i
      clear ht e
      go_enter Try.func9, Try.ntmps9
      go_wp2_with (at_builtin; refine wpl_appendI Try.underlying37 Try.info3 rfl (.tmp 13) (.tmp 14) rfl w.heap.size _ [3, (n : Int) + 3] rfl ho 1 (by show Value.slice (some ⟨w.heap.size + 1, 0, none⟩) 1 1 = _; simp) (by simp) hb.size ?_; intro v' w1 hown2 hb2; obtain ⟨A1, c1, rfl, hr1⟩ := RdI.of_own hown2)
      refine (K.out _ _ _ hr1).mono ?_
      rintro e w2 ⟨rfl, b2⟩
      have hb3 := hb.trans hb2
      have b2 := hb3.trans (b2.mono hb3.size)
      go_wp2
      go_ret
      exact ⟨rfl, b2⟩

set_option maxHeartbeats 800000 in
set_option maxRecDepth 100000 in
theorem refStart_in_0 (w : World) (n : Nat) (hn : n ≤ 1024) : Calls Try.prog 13 #[.int .i64 0, .bool true, .int .i64 (n : Int)] w (ResZ w (sumN [4, 3, 1])) := by
  have ho := ownI_built w 3 [4, 3] (by simp)
  have hb := (Below.refl w.heap.size w).alloc (Nat.le_refl _) (.cells #[.int .i64 4, .int .i64 3] 3)
  have hall : ∀ m ∈ [4, 3, 1], m ≤ 1100 := by simp; try omega
  have K := Lib.hid fun W A c hr => sum_any W A c [4, 3, 1] [4, 3, 1] (by simp) hr (by simp) hall
  generalize sumN [4, 3, 1] = S at K ⊢
  clear hall
  go_enter Try.func13, Try.ntmps13
  go_wp2_with (at_builtin; refine wpl_appendI Try.underlying37 Try.info3 rfl (.tmp 22) (.tmp 23) rfl w.heap.size _ [4, 3] rfl ho 1 (by show Value.slice (some ⟨w.heap.size + 1, 0, none⟩) 1 1 = _; simp) (by simp) hb.size ?_; intro v2 w2 own2 hb2; have hb2 := hb.trans hb2; obtain ⟨A2, c2, rfl, hr2⟩ := RdI.of_own own2)
  refine (K.out _ _ _ hr2).mono ?_
  rintro e w3 ⟨rfl, b3⟩
  have b3 := hb2.trans (b3.mono hb2.size)
  go_wp2
  go_ret
  exact ⟨rfl, b3⟩

set_option maxHeartbeats 800000 in
set_option maxRecDepth 100000 in
theorem refStart_in_2 (w : World) (n : Nat) (hn : n ≤ 1024) : Calls Try.prog 13 #[.int .i64 2, .bool true, .int .i64 (n : Int)] w (ResZ w (sumN [4, 3, 1])) := by
  have ho := ownI_built w 3 [4, 3] (by simp)
  have hb := (Below.refl w.heap.size w).alloc (Nat.le_refl _) (.cells #[.int .i64 4, .int .i64 3] 3)
  have hall : ∀ m ∈ [4, 3, 1], m ≤ 1100 := by simp; try omega
  have K := Lib.hid fun W A c hr => sum_any W A c [4, 3, 1] [4, 3, 1] (by simp) hr (by simp) hall
  generalize sumN [4, 3, 1] = S at K ⊢
  clear hall
  go_enter Try.func13, Try.ntmps13
  go_wp2_with (at_builtin; refine wpl_appendI Try.underlying37 Try.info3 rfl (.tmp 22) (.tmp 23) rfl w.heap.size _ [4, 3] rfl ho 1 (by show Value.slice (some ⟨w.heap.size + 1, 0, none⟩) 1 1 = _; simp) (by simp) hb.size ?_; intro v2 w2 own2 hb2; have hb2 := hb.trans hb2; obtain ⟨A2, c2, rfl, hr2⟩ := RdI.of_own own2)
  refine (K.out _ _ _ hr2).mono ?_
  rintro e w3 ⟨rfl, b3⟩
  have b3 := hb2.trans (b3.mono hb2.size)
  go_wp2
  go_ret
  exact ⟨rfl, b3⟩

set_option maxHeartbeats 800000 in
set_option maxRecDepth 100000 in
theorem refStart_in_k (w : World) (n : Nat) (hn : n ≤ 1024) (k : Nat) (hk0 : ¬ k = 0) (hk2 : ¬ k = 2) : Calls Try.prog 13 #[.int .i64 (k : Int), .bool true, .int .i64 (n : Int)] w (ResZ w (sumN [4, 3])) := by
  have ho := ownI_built w 3 [4, 3] (by simp)
  have hb := (Below.refl w.heap.size w).alloc (Nat.le_refl _) (.cells #[.int .i64 4, .int .i64 3] 3)
  have hall : ∀ m ∈ [4, 3], m ≤ 1100 := by simp; try omega
  have K := Lib.hid fun W A c hr => sum_any W A c [4, 3] [4, 3] (by simp) hr (by simp) hall
  generalize sumN [4, 3] = S at K ⊢
  have hk0i : ¬ (k : Int) = 0 := by omega
  have hk0b : ((k : Int) == 0) = false := by rw [beq_eq_false_iff_ne]; exact hk0i
  have hk2i : ¬ (k : Int) = 2 := by omega
  have hk2b : ((k : Int) == 2) = false := by rw [beq_eq_false_iff_ne]; exact hk2i
  clear hall
  go_enter Try.func13, Try.ntmps13
  obtain ⟨A0, c0, e1, hr0⟩ := RdI.of_own ho
  injection e1 with e2 e3 e4
  subst e2; subst e4
  go_wp2_with fail
  refine (K.out _ _ _ hr0).mono ?_
  rintro e w3 ⟨rfl, b3⟩
  have b3 := hb.trans (b3.mono hb.size)
  go_wp2
  go_ret
  exact ⟨rfl, b3⟩

set_option maxHeartbeats 800000 in
set_option maxRecDepth 100000 in
theorem refStart_out_0 (w : World) (n : Nat) (hn : n ≤ 1024) : Calls Try.prog 13 #[.int .i64 0, .bool false, .int .i64 (n : Int)] w (ResZ w (sumN [4, 3, n + 3, 1])) := by
  have ho := ownI_built w 3 [4, 3] (by simp)
  have hb := (Below.refl w.heap.size w).alloc (Nat.le_refl _) (.cells #[.int .i64 4, .int .i64 3] 3)
  have hall : ∀ m ∈ [4, 3, n + 3, 1], m ≤ 1100 := by simp; try omega
  have K := Lib.hid fun W A c hr => sum_any W A c [4, 3, n + 3, 1] [4, 3, (n : Int) + 3, 1] (by simp) hr (by simp) hall
  generalize sumN [4, 3, n + 3, 1] = S at K ⊢
  clear hall
  go_enter Try.func13, Try.ntmps13
  go_wp2_with (first | (at_builtin; refine wpl_appendI Try.underlying37 Try.info3 rfl (.tmp 11) (.tmp 14) rfl w.heap.size _ [4, 3] rfl ho ((n : Int) + 3) (by show Value.slice (some ⟨w.heap.size + 1, 0, none⟩) 1 1 = _; simp) (by simp) hb.size ?_; intro v1 w1 own1 hb1; have hb1 := hb.trans hb1) | (at_builtin; refine wpl_appendI Try.underlying37 Try.info3 rfl (.tmp 22) (.tmp 23) rfl w.heap.size _ [4, 3, (n : Int) + 3] rfl own1 1 rfl (by simp) hb1.size ?_; intro v2 w2 own2 hb2; have hb2 := hb1.trans hb2; obtain ⟨A2, c2, rfl, hr2⟩ := RdI.of_own own2))
  refine (K.out _ _ _ hr2).mono ?_
  rintro e w3 ⟨rfl, b3⟩
  have b3 := hb2.trans (b3.mono hb2.size)
  go_wp2
  go_ret
  exact ⟨rfl, b3⟩

set_option maxHeartbeats 800000 in
set_option maxRecDepth 100000 in
theorem refStart_out_2 (w : World) (n : Nat) (hn : n ≤ 1024) : Calls Try.prog 13 #[.int .i64 2, .bool false, .int .i64 (n : Int)] w (ResZ w (sumN [4, 3, n + 3, 1])) := by
  have ho := ownI_built w 3 [4, 3] (by simp)
  have hb := (Below.refl w.heap.size w).alloc (Nat.le_refl _) (.cells #[.int .i64 4, .int .i64 3] 3)
  have hall : ∀ m ∈ [4, 3, n + 3, 1], m ≤ 1100 := by simp; try omega
  have K := Lib.hid fun W A c hr => sum_any W A c [4, 3, n + 3, 1] [4, 3, (n : Int) + 3, 1] (by simp) hr (by simp) hall
  generalize sumN [4, 3, n + 3, 1] = S at K ⊢
  clear hall
  go_enter Try.func13, Try.ntmps13
  go_wp2_with (first | (at_builtin; refine wpl_appendI Try.underlying37 Try.info3 rfl (.tmp 11) (.tmp 14) rfl w.heap.size _ [4, 3] rfl ho ((n : Int) + 3) (by show Value.slice (some ⟨w.heap.size + 1, 0, none⟩) 1 1 = _; simp) (by simp) hb.size ?_; intro v1 w1 own1 hb1; have hb1 := hb.trans hb1) | (at_builtin; refine wpl_appendI Try.underlying37 Try.info3 rfl (.tmp 22) (.tmp 23) rfl w.heap.size _ [4, 3, (n : Int) + 3] rfl own1 1 rfl (by simp) hb1.size ?_; intro v2 w2 own2 hb2; have hb2 := hb1.trans hb2; obtain ⟨A2, c2, rfl, hr2⟩ := RdI.of_own own2))
  refine (K.out _ _ _ hr2).mono ?_
  rintro e w3 ⟨rfl, b3⟩
  have b3 := hb2.trans (b3.mono hb2.size)
  go_wp2
  go_ret
  exact ⟨rfl, b3⟩

set_option maxHeartbeats 800000 in
set_option maxRecDepth 100000 in
theorem refStart_out_k (w : World) (n : Nat) (hn : n ≤ 1024) (k : Nat) (hk0 : ¬ k = 0) (hk2 : ¬ k = 2) : Calls Try.prog 13 #[.int .i64 (k : Int), .bool false, .int .i64 (n : Int)] w (ResZ w (sumN [4, 3, n + 3])) := by
  have ho := ownI_built w 3 [4, 3] (by simp)
  have hb := (Below.refl w.heap.size w).alloc (Nat.le_refl _) (.cells #[.int .i64 4, .int .i64 3] 3)
  have hall : ∀ m ∈ [4, 3, n + 3], m ≤ 1100 := by simp; try omega
  have K := Lib.hid fun W A c hr => sum_any W A c [4, 3, n + 3] [4, 3, (n : Int) + 3] (by simp) hr (by simp) hall
  generalize sumN [4, 3, n + 3] = S at K ⊢
  have hk0i : ¬ (k : Int) = 0 := by omega
  have hk0b : ((k : Int) == 0) = false := by rw [beq_eq_false_iff_ne]; exact hk0i
  have hk2i : ¬ (k : Int) = 2 := by omega
  have hk2b : ((k : Int) == 2) = false := by rw [beq_eq_false_iff_ne]; exact hk2i
  clear hall
  go_enter Try.func13, Try.ntmps13
  go_wp2_with ((at_builtin; refine wpl_appendI Try.underlying37 Try.info3 rfl (.tmp 11) (.tmp 14) rfl w.heap.size _ [4, 3] rfl ho ((n : Int) + 3) (by show Value.slice (some ⟨w.heap.size + 1, 0, none⟩) 1 1 = _; simp) (by simp) hb.size ?_; intro v1 w1 own1 hb1; have hb1 := hb.trans hb1); obtain ⟨A1, c1, rfl, hr1⟩ := RdI.of_own own1)
  refine (K.out _ _ _ hr1).mono ?_
  rintro e w3 ⟨rfl, b3⟩
  have b3 := hb1.trans (b3.mono hb1.size)
  go_wp2
  go_ret
  exact ⟨rfl, b3⟩

set_option maxHeartbeats 800000 in
set_option maxRecDepth 100000 in
theorem refComplete_in_1 (w : World) (n : Nat) (hn : n ≤ 1024) : Calls Try.prog 14 #[.int .i64 1, .bool true, .int .i64 (n : Int)] w (ResZ w (sumN [4, 3, n + 3])) := by
  have ho := ownI_built w 3 [4, 3] (by simp)
  have hb := (Below.refl w.heap.size w).alloc (Nat.le_refl _) (.cells #[.int .i64 4, .int .i64 3] 3)
  have hall : ∀ m ∈ [4, 3, n + 3], m ≤ 1100 := by simp; try omega
  have K := Lib.hid fun W A c hr => sum_any W A c [4, 3, n + 3] [4, 3, (n : Int) + 3] (by simp) hr (by simp) hall
  generalize sumN [4, 3, n + 3] = S at K ⊢
  clear hall
  go_enter Try.func14, Try.ntmps14
  go_wp2_with ((at_builtin; refine wpl_appendI Try.underlying37 Try.info3 rfl (.tmp 10) (.tmp 13) rfl w.heap.size _ [4, 3] rfl ho ((n : Int) + 3) (by show Value.slice (some ⟨w.heap.size + 1, 0, none⟩) 1 1 = _; simp) (by simp) hb.size ?_; intro v1 w1 own1 hb1; have hb1 := hb.trans hb1); obtain ⟨A1, c1, rfl, hr1⟩ := RdI.of_own own1)
  refine (K.out _ _ _ hr1).mono ?_
  rintro e w3 ⟨rfl, b3⟩
  have b3 := hb1.trans (b3.mono hb1.size)
  go_wp2
  go_ret
  exact ⟨rfl, b3⟩

set_option maxHeartbeats 800000 in
set_option maxRecDepth 100000 in
theorem refComplete_in_k (w : World) (n : Nat) (hn : n ≤ 1024) (k : Nat) (hk1 : ¬ k = 1) : Calls Try.prog 14 #[.int .i64 (k : Int), .bool true, .int .i64 (n : Int)] w (ResZ w (sumN [4, 3, n + 3, 1])) := by
  have ho := ownI_built w 3 [4, 3] (by simp)
  have hb := (Below.refl w.heap.size w).alloc (Nat.le_refl _) (.cells #[.int .i64 4, .int .i64 3] 3)
  have hall : ∀ m ∈ [4, 3, n + 3, 1], m ≤ 1100 := by simp; try omega
  have K := Lib.hid fun W A c hr => sum_any W A c [4, 3, n + 3, 1] [4, 3, (n : Int) + 3, 1] (by simp) hr (by simp) hall
  generalize sumN [4, 3, n + 3, 1] = S at K ⊢
  have hk1i : ¬ (k : Int) = 1 := by omega
  have hk1b : ((k : Int) == 1) = false := by rw [beq_eq_false_iff_ne]; exact hk1i
  clear hall
  go_enter Try.func14, Try.ntmps14
  go_wp2_with (first | (at_builtin; refine wpl_appendI Try.underlying37 Try.info3 rfl (.tmp 10) (.tmp 13) rfl w.heap.size _ [4, 3] rfl ho ((n : Int) + 3) (by show Value.slice (some ⟨w.heap.size + 1, 0, none⟩) 1 1 = _; simp) (by simp) hb.size ?_; intro v1 w1 own1 hb1; have hb1 := hb.trans hb1) | (at_builtin; refine wpl_appendI Try.underlying37 Try.info3 rfl (.tmp 17) (.tmp 18) rfl w.heap.size _ [4, 3, (n : Int) + 3] rfl own1 1 rfl (by simp) hb1.size ?_; intro v2 w2 own2 hb2; have hb2 := hb1.trans hb2; obtain ⟨A2, c2, rfl, hr2⟩ := RdI.of_own own2))
  refine (K.out _ _ _ hr2).mono ?_
  rintro e w3 ⟨rfl, b3⟩
  have b3 := hb2.trans (b3.mono hb2.size)
  go_wp2
  go_ret
  exact ⟨rfl, b3⟩

set_option maxHeartbeats 800000 in
set_option maxRecDepth 100000 in
theorem refComplete_out_1 (w : World) (n : Nat) (hn : n ≤ 1024) : Calls Try.prog 14 #[.int .i64 1, .bool false, .int .i64 (n : Int)] w (ResZ w (sumN [4, 3])) := by
  have ho := ownI_built w 3 [4, 3] (by simp)
  have hb := (Below.refl w.heap.size w).alloc (Nat.le_refl _) (.cells #[.int .i64 4, .int .i64 3] 3)
  have hall : ∀ m ∈ [4, 3], m ≤ 1100 := by simp; try omega
  have K := Lib.hid fun W A c hr => sum_any W A c [4, 3] [4, 3] (by simp) hr (by simp) hall
  generalize sumN [4, 3] = S at K ⊢
  clear hall
  go_enter Try.func14, Try.ntmps14
  obtain ⟨A0, c0, e1, hr0⟩ := RdI.of_own ho
  injection e1 with e2 e3 e4
  subst e2; subst e4
  go_wp2_with fail
  refine (K.out _ _ _ hr0).mono ?_
  rintro e w3 ⟨rfl, b3⟩
  have b3 := hb.trans (b3.mono hb.size)
  go_wp2
  go_ret
  exact ⟨rfl, b3⟩

set_option maxHeartbeats 800000 in
set_option maxRecDepth 100000 in
theorem refComplete_out_k (w : World) (n : Nat) (hn : n ≤ 1024) (k : Nat) (hk1 : ¬ k = 1) : Calls Try.prog 14 #[.int .i64 (k : Int), .bool false, .int .i64 (n : Int)] w (ResZ w (sumN [4, 3, 1])) := by
  have ho := ownI_built w 3 [4, 3] (by simp)
  have hb := (Below.refl w.heap.size w).alloc (Nat.le_refl _) (.cells #[.int .i64 4, .int .i64 3] 3)
  have hall : ∀ m ∈ [4, 3, 1], m ≤ 1100 := by simp; try omega
  have K := Lib.hid fun W A c hr => sum_any W A c [4, 3, 1] [4, 3, 1] (by simp) hr (by simp) hall
  generalize sumN [4, 3, 1] = S at K ⊢
  have hk1i : ¬ (k : Int) = 1 := by omega
  have hk1b : ((k : Int) == 1) = false := by rw [beq_eq_false_iff_ne]; exact hk1i
  clear hall
  go_enter Try.func14, Try.ntmps14
  go_wp2_with (at_builtin; refine wpl_appendI Try.underlying37 Try.info3 rfl (.tmp 17) (.tmp 18) rfl w.heap.size _ [4, 3] rfl ho 1 (by show Value.slice (some ⟨w.heap.size + 1, 0, none⟩) 1 1 = _; simp) (by simp) hb.size ?_; intro v2 w2 own2 hb2; have hb2 := hb.trans hb2; obtain ⟨A2, c2, rfl, hr2⟩ := RdI.of_own own2)
  refine (K.out _ _ _ hr2).mono ?_
  rintro e w3 ⟨rfl, b3⟩
  have b3 := hb2.trans (b3.mono hb2.size)
  go_wp2
  go_ret
  exact ⟨rfl, b3⟩

theorem refStart_any (w : World) (k n : Nat) (i : Bool) (hn : n ≤ 1024) : Calls Try.prog 13 #[.int .i64 (k : Int), .bool i, .int .i64 (n : Int)] w (ResZ w (startN k i n)) := by
  by_cases hk0 : k = 0
  · subst hk0
    cases i
    · have := refStart_out_0 w n hn
      rwa [show sumN [4, 3, n + 3, 1] = startN 0 false n by simp [sumN, startN, worst4, worst3, worst1]; omega] at this
    · have := refStart_in_0 w n hn
      rwa [show sumN [4, 3, 1] = startN 0 true n by simp [sumN, startN, worst4, worst3, worst1]] at this
  · by_cases hk2 : k = 2
    · subst hk2
      cases i
      · have := refStart_out_2 w n hn
        rwa [show sumN [4, 3, n + 3, 1] = startN 2 false n by simp [sumN, startN, worst4, worst3, worst1]; omega] at this
      · have := refStart_in_2 w n hn
        rwa [show sumN [4, 3, 1] = startN 2 true n by simp [sumN, startN, worst4, worst3, worst1]] at this
    · cases i
      · have := refStart_out_k w n hn k hk0 hk2
        rwa [show sumN [4, 3, n + 3] = startN k false n by simp [sumN, startN, worst4, worst3, worst1, hk0, hk2]; omega] at this
      · have := refStart_in_k w n hn k hk0 hk2
        rwa [show sumN [4, 3] = startN k true n by simp [sumN, startN, worst4, worst3, worst1, hk0, hk2]] at this
theorem refCompl_any (w : World) (k n : Nat) (i : Bool) (hn : n ≤ 1024) : Calls Try.prog 14 #[.int .i64 (k : Int), .bool i, .int .i64 (n : Int)] w (ResZ w (complN k i n)) := by
  by_cases hk1 : k = 1
  · subst hk1
    cases i
    · have := refComplete_out_1 w n hn
      rwa [show sumN [4, 3] = complN 1 false n by simp [sumN, complN, worst4, worst3, worst1]] at this
    · have := refComplete_in_1 w n hn
      rwa [show sumN [4, 3, n + 3] = complN 1 true n by simp [sumN, complN, worst4, worst3, worst1]; omega] at this
  · cases i
    · have := refComplete_out_k w n hn k hk1
      rwa [show sumN [4, 3, 1] = complN k false n by simp [sumN, complN, worst4, worst3, worst1, hk1]] at this
    · have := refComplete_in_k w n hn k hk1
      rwa [show sumN [4, 3, n + 3, 1] = complN k true n by simp [sumN, complN, worst4, worst3, worst1, hk1]; omega] at this

end Go.Proofs.Ytkmjemaajgdoiaa
