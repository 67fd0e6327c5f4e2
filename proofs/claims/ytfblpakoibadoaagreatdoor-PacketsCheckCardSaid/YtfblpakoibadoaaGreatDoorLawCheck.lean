/-
  Helper text: the walk of the law PacketsCheck; no statement is proved here.
-/
import Derived.Test.YtfblpakoibadoaaGreatDoorRcAll
import Derived.Test.YtfblpakoibadoaaGreatDoorText5
import Derived.Test.YtfblpakoibadoaaGreatDoorLives
namespace Go.Proofs.YtfblpakoibadoaaGreatDoor
open Go Go.RowKit

/-- The string conversion of a slice that reads as xs. -/
abbrev Cw (w : World) (A : Option Addr) (n c : Nat) (xs : List UInt8) : Prop := (convert 27 9 (.slice A n c)).run Tryz.prog w = .ok (.string ⟨xs.toArray⟩) w
theorem Rd.cw {w : World} {B c : Nat} {A : Option Addr} {xs : List UInt8} (h : Rd w B A c xs) : Cw w A xs.length c xs := h.str Tryz.underlying27 Tryz.underlying5 Tryz.underlying9
theorem Rd.cws {w : World} {c : Nat} {A : Option Addr} {xs : List UInt8} (h : Rd w w.heap.size A c xs) : ∀ w', Gr w w' → Cw w' A xs.length c xs := fun _ hg => (h.below hg).cw
/-- The text of a packet is not empty. -/
theorem text_some {r : Rg} {xs : List UInt8} (h : known r.pid = true) : Lib.join (wordsL r xs) [32] ≠ [] := by
  have hn : pidL.getD r.pid [] ≠ [] := by
    have h1 := known_name (known_lt h)
    rw [h] at h1
    intro e
    rw [e] at h1
    simp at h1
  unfold wordsL
  generalize pidL.getD r.pid [] = z at hn
  intro e
  rw [List.singleton_append] at e
  rw [Lib.join_cons] at e
  exact hn (List.append_eq_nil_iff.1 e).1

theorem lawCheck_skip (w : World) (p0 p1 p2 p3 p4 p5 p8 : Nat) (p6 p7 : Bool) (A : Option Addr) (n c : Nat) (h : 1100 < n) :
    Calls Tryz.prog 3 #[.agg #[.int .u8 (p0 : Int), .int .u8 (p1 : Int), .int .u8 (p2 : Int), .int .u16 (p3 : Int), .int .u8 (p4 : Int), .int .u8 (p5 : Int), .bool p6, .bool p7, .int .u8 (p8 : Int), .slice A n c]] w (ResB w true) := by
  have t1 : (1100 : Int) < (n : Int) := by omega
  go_enter Tryz.func3, Tryz.ntmps3
  go_wp2
  go_ret
  exact ⟨rfl, (Below.refl _ w).alloc (Nat.le_refl _) _⟩

set_option maxHeartbeats 3200000 in
set_option maxRecDepth 100000 in
theorem lawCheck_in (w : World) (hL : Laid w) (r : Rg) (ok : r.Ok) (A : Option Addr) (c : Nat) (xs : List UInt8) (hx : Rd w w.heap.size A c xs) (hd : r.data = .slice A xs.length c) (hl : xs.length ≤ 1100) :
    Calls Tryz.prog 3 #[.agg (pcells r)] w (ResB w true) := by
  have t1 : ¬ (1100 : Int) < (xs.length : Int) := by omega
  have KC := fun W => refCheck_any W r ok A c xs hd
  have KP := fun W hLW hR => check_any W hLW r ok A c xs hR hd
  have KE := fun W hLW hR => encode_any W hLW r ok A c xs hR hd
  have KL := Lib.hid fun (W : World) (b : Below w.heap.size w W) => lives_any W (hL.below b)
  have hLh := Lib.hid hL
  by_cases hE : errR r xs = 0
  · have h0 := err_zero r ok xs hE
    have KT := fun W hLW hR => text_any W hLW r ok A c xs hR hd hE
    have hne := text_some (xs := xs) (fit_known h0.1)
    have KR := fun W hR => refEnc_any W r ok A c xs h0.1 hR hd (by omega)
    have hel : (encL r xs).length ≤ 1028 := by
      have h := contentL_len r xs
      have := h0.2
      show (contentL _ _).length + 1 ≤ 1028
      omega
    rw [hE] at KC KP KE
    rw [show encE r xs = encL r xs from if_pos hE] at KE
    generalize encL r xs = bs at KE KR hel
    generalize Lib.join (wordsL r xs) [32] = ts at KT hne
    obtain ⟨p0, p1, p2, p3, p4, p5, p6, p7, p8, p9, p10⟩ := r
    simp only at hd
    subst hd
    simp only [pcells, ResS] at KC KP KE KT KR ⊢
    have KCh := Lib.hid KC
    have KPh := Lib.hid KP
    have KEh := Lib.hid KE
    have KTh := Lib.hid KT
    have KRh := Lib.hid KR
    have hnt : ts.isEmpty = false := by cases ts with | nil => exact absurd rfl hne | cons _ _ => rfl
    have hn1 := Lib.hid (heap_alloc_new w (.cells #[.int .u8 (p0 : Int), .int .u8 (p1 : Int), .int .u8 (p2 : Int), .int .u16 (p3 : Int), .int .u8 (p4 : Int), .int .u8 (p5 : Int), .bool p6, .bool p7, .int .u8 (p8 : Int), .slice A xs.length c] 29))
    have hb1 := Lib.hid ((Below.refl w.heap.size w).alloc (Nat.le_refl _) (.cells #[.int .u8 (p0 : Int), .int .u8 (p1 : Int), .int .u8 (p2 : Int), .int .u16 (p3 : Int), .int .u8 (p4 : Int), .int .u8 (p5 : Int), .bool p6, .bool p7, .int .u8 (p8 : Int), .slice A xs.length c] 29))
    have hx1 := Lib.hid (hx.belowTop hb1.out)
    have s1 := hx1.out.cw
    clear KC KP KE KT KR hE h0 ok hL hx hne
    go_enter Tryz.func3, Tryz.ntmps3
    go_wp2_with fail
    generalize w.alloc (.cells #[.int .u8 (p0 : Int), .int .u8 (p1 : Int), .int .u8 (p2 : Int), .int .u16 (p3 : Int), .int .u8 (p4 : Int), .int .u8 (p5 : Int), .bool p6, .bool p7, .int .u8 (p8 : Int), .slice A xs.length c] 29) = W at hn1 hb1 hx1 s1 ⊢
    generalize w.heap.size = G at hn1 ⊢
    refine (KCh.out _).mono ?_
    rintro e w2 ⟨rfl, b2⟩
    have hn2 := Lib.hid ((b2.block _ (lt_of_block hn1.out)).trans hn1.out)
    have hb2 := Lib.hid (hb1.out.trans (b2.mono hb1.out.size))
    have hx2 := Lib.hid (hx1.out.belowTop b2)
    clear b2 hn1 hb1 hx1 s1 KCh
    have k0 := block_at (i := 0) hn2.out rfl
    have k1 := block_at (i := 1) hn2.out rfl
    have k2 := block_at (i := 2) hn2.out rfl
    have k3 := block_at (i := 3) hn2.out rfl
    have k4 := block_at (i := 4) hn2.out rfl
    have k5 := block_at (i := 5) hn2.out rfl
    have k6 := block_at (i := 6) hn2.out rfl
    have k7 := block_at (i := 7) hn2.out rfl
    have k8 := block_at (i := 8) hn2.out rfl
    have k9 := block_at (i := 9) hn2.out rfl
    go_wp2_with fail
    refine (KEh.out w2 (hLh.out.below hb2.out) hx2.out).mono ?_
    rintro e w3 ⟨v3, rfl, o3, b3⟩
    obtain ⟨A3, c3, rfl, r3⟩ := Rd.of_own o3
    have hn3 := Lib.hid ((b3.block _ (lt_of_block hn2.out)).trans hn2.out)
    have hb3 := Lib.hid (hb2.out.trans (b3.mono hb2.out.size))
    have hx3 := Lib.hid (hx2.out.belowTop b3)
    have hr3 := Lib.hid r3
    clear k0 k1 k2 k3 k4 k5 k6 k7 k8 k9 b3 hn2 hb2 hx2 KEh o3 r3
    have k0 := block_at (i := 0) hn3.out rfl
    have k1 := block_at (i := 1) hn3.out rfl
    have k2 := block_at (i := 2) hn3.out rfl
    have k3 := block_at (i := 3) hn3.out rfl
    have k4 := block_at (i := 4) hn3.out rfl
    have k5 := block_at (i := 5) hn3.out rfl
    have k6 := block_at (i := 6) hn3.out rfl
    have k7 := block_at (i := 7) hn3.out rfl
    have k8 := block_at (i := 8) hn3.out rfl
    have k9 := block_at (i := 9) hn3.out rfl
    go_wp2_with fail
    refine (KPh.out w3 (hLh.out.below hb3.out) hx3.out).mono ?_
    rintro e w4 ⟨rfl, b4⟩
    have hn4 := Lib.hid ((b4.block _ (lt_of_block hn3.out)).trans hn3.out)
    have hb4 := Lib.hid (hb3.out.trans (b4.mono hb3.out.size))
    have hx4 := Lib.hid (hx3.out.belowTop b4)
    have hr4 := Lib.hid (hr3.out.belowTop b4)
    clear k0 k1 k2 k3 k4 k5 k6 k7 k8 k9 b4 hn3 hb3 hx3 hr3 KPh
    have k0 := block_at (i := 0) hn4.out rfl
    have k1 := block_at (i := 1) hn4.out rfl
    have k2 := block_at (i := 2) hn4.out rfl
    have k3 := block_at (i := 3) hn4.out rfl
    have k4 := block_at (i := 4) hn4.out rfl
    have k5 := block_at (i := 5) hn4.out rfl
    have k6 := block_at (i := 6) hn4.out rfl
    have k7 := block_at (i := 7) hn4.out rfl
    have k8 := block_at (i := 8) hn4.out rfl
    have k9 := block_at (i := 9) hn4.out rfl
    go_wp2_with fail
    refine (KTh.out w4 (hLh.out.below hb4.out) hx4.out).mono ?_
    rintro e w5 ⟨rfl, b5⟩
    have hn5 := Lib.hid ((b5.block _ (lt_of_block hn4.out)).trans hn4.out)
    have hb5 := Lib.hid (hb4.out.trans (b5.mono hb4.out.size))
    have hx5 := Lib.hid (hx4.out.belowTop b5)
    have hr5 := Lib.hid (hr4.out.belowTop b5)
    clear k0 k1 k2 k3 k4 k5 k6 k7 k8 k9 b5 hn4 hb4 hx4 hr4 KTh
    go_wp2_with fail
    refine startG 17 (l := #[false, false, false, false, false, false, false, false, false, false, false, false, false, false, false, false, false]) (by kernel_rfl) rfl rfl ?_
    have hbd : Hid (Below w.heap.size w w5.drew) := hb5.out.drew
    have hnd : Hid (w5.drew.heap[G]? = _) := hn5
    have hxd : Hid (Rd w5.drew w5.drew.heap.size A c xs) := hx5.out.drew
    have hrd : Hid (Rd w5.drew w5.drew.heap.size A3 c3 bs) := hr5.out.drew
    generalize w5.drew = w6 at hbd hnd hxd hrd ⊢
    have s2 := hrd.out.cws
    clear hb5 hn5 hx5 hr5
    ((first | (refine takeG 0 (v := ?_) rfl (by decide +kernel) (by decide +kernel) (by decide +kernel) (fun _ _ _ h => h) (Or.inl ⟨by rfl, ?_⟩) ?_; rotate_left 1; (focus (intro W hW; go_simp; first | done | with_reducible rfl)); try simp only [Act.put, List.setIfInBounds_toArray, List.set_cons_zero, List.set_cons_succ]) | (refine takeG 0 rfl (by decide +kernel) (by decide +kernel) (by decide +kernel) (fun _ _ _ h => h) (Or.inr ⟨by rfl, rfl⟩) ?_; try simp only [Act.put, List.setIfInBounds_toArray, List.set_cons_zero, List.set_cons_succ]) | skip); (first | (refine takeG 1 (v := ?_) rfl (by decide +kernel) (by decide +kernel) (by decide +kernel) (fun _ _ _ h => h) (Or.inl ⟨by rfl, ?_⟩) ?_; rotate_left 1; (focus (intro W hW; go_simp; first | done | with_reducible rfl)); try simp only [Act.put, List.setIfInBounds_toArray, List.set_cons_zero, List.set_cons_succ]) | (refine takeG 1 rfl (by decide +kernel) (by decide +kernel) (by decide +kernel) (fun _ _ _ h => h) (Or.inr ⟨by rfl, rfl⟩) ?_; try simp only [Act.put, List.setIfInBounds_toArray, List.set_cons_zero, List.set_cons_succ]) | skip))
    refine takeG 2 (v := .agg #[.int .u8 (p0 : Int), .int .u8 (p1 : Int), .int .u8 (p2 : Int), .int .u16 (p3 : Int), .int .u8 (p4 : Int), .int .u8 (p5 : Int), .bool p6, .bool p7, .int .u8 (p8 : Int), .slice A xs.length c]) rfl (by decide +kernel) (by decide +kernel) (by decide +kernel) (fun _ _ _ h => h) (Or.inl ⟨by rfl, ?_⟩) ?_
    · intro W hW
      have hn := (hW.block _ (lt_of_block hnd.out)).trans hnd.out
      have q0 := block_at (i := 0) hn rfl
      have q1 := block_at (i := 1) hn rfl
      have q2 := block_at (i := 2) hn rfl
      have q3 := block_at (i := 3) hn rfl
      have q4 := block_at (i := 4) hn rfl
      have q5 := block_at (i := 5) hn rfl
      have q6 := block_at (i := 6) hn rfl
      have q7 := block_at (i := 7) hn rfl
      have q8 := block_at (i := 8) hn rfl
      have q9 := block_at (i := 9) hn rfl
      clear hn hW
      go_simp
      first | done | with_reducible rfl
    try simp only [Act.put, List.setIfInBounds_toArray, List.set_cons_zero, List.set_cons_succ]
    refine stepG 3 rfl (by decide +kernel) (by rfl) ?_
    intro K hK
    go_simp
    refine (KRh.out w6 hxd.out).mono ?_
    rintro e w7 ⟨v7, rfl, o7, b7⟩
    obtain ⟨A7, c7, rfl, r7⟩ := Rd.of_own o7
    refine hK _ _ b7 ?_
    clear hK K s2 o7
    try simp only [Act.put, List.setIfInBounds_toArray, List.set_cons_zero, List.set_cons_succ]
    have hb7 := Lib.hid (hbd.out.trans (b7.mono hbd.out.size))
    have hn7 := Lib.hid ((b7.block _ (lt_of_block hnd.out)).trans hnd.out)
    have s7 := r7.cws
    have s8 := (hxd.out.belowTop b7).cws
    clear b7 hrd hnd hbd hxd
    ((first | (refine takeG 4 (v := ?_) rfl (by decide +kernel) (by decide +kernel) (by decide +kernel) (fun _ _ _ h => h) (Or.inl ⟨by rfl, ?_⟩) ?_; rotate_left 1; (focus (intro W hW; go_simp; first | done | with_reducible rfl)); try simp only [Act.put, List.setIfInBounds_toArray, List.set_cons_zero, List.set_cons_succ]) | (refine takeG 4 rfl (by decide +kernel) (by decide +kernel) (by decide +kernel) (fun _ _ _ h => h) (Or.inr ⟨by rfl, rfl⟩) ?_; try simp only [Act.put, List.setIfInBounds_toArray, List.set_cons_zero, List.set_cons_succ]) | skip); (first | (refine takeG 5 (v := ?_) rfl (by decide +kernel) (by decide +kernel) (by decide +kernel) (fun _ _ _ h => h) (Or.inl ⟨by rfl, ?_⟩) ?_; rotate_left 1; (focus (intro W hW; go_simp; first | done | with_reducible rfl)); try simp only [Act.put, List.setIfInBounds_toArray, List.set_cons_zero, List.set_cons_succ]) | (refine takeG 5 rfl (by decide +kernel) (by decide +kernel) (by decide +kernel) (fun _ _ _ h => h) (Or.inr ⟨by rfl, rfl⟩) ?_; try simp only [Act.put, List.setIfInBounds_toArray, List.set_cons_zero, List.set_cons_succ]) | skip); (first | (refine takeG 6 (v := ?_) rfl (by decide +kernel) (by decide +kernel) (by decide +kernel) (fun _ _ _ h => h) (Or.inl ⟨by rfl, ?_⟩) ?_; rotate_left 1; (focus (intro W hW; go_simp; first | done | with_reducible rfl)); try simp only [Act.put, List.setIfInBounds_toArray, List.set_cons_zero, List.set_cons_succ]) | (refine takeG 6 rfl (by decide +kernel) (by decide +kernel) (by decide +kernel) (fun _ _ _ h => h) (Or.inr ⟨by rfl, rfl⟩) ?_; try simp only [Act.put, List.setIfInBounds_toArray, List.set_cons_zero, List.set_cons_succ]) | skip); (first | (refine takeG 7 (v := ?_) rfl (by decide +kernel) (by decide +kernel) (by decide +kernel) (fun _ _ _ h => h) (Or.inl ⟨by rfl, ?_⟩) ?_; rotate_left 1; (focus (intro W hW; go_simp; first | done | with_reducible rfl)); try simp only [Act.put, List.setIfInBounds_toArray, List.set_cons_zero, List.set_cons_succ]) | (refine takeG 7 rfl (by decide +kernel) (by decide +kernel) (by decide +kernel) (fun _ _ _ h => h) (Or.inr ⟨by rfl, rfl⟩) ?_; try simp only [Act.put, List.setIfInBounds_toArray, List.set_cons_zero, List.set_cons_succ]) | skip))
    refine takeG 8 (v := .slice A xs.length c) rfl (by decide +kernel) (by decide +kernel) (by decide +kernel) (fun _ _ _ h => h) (Or.inl ⟨by rfl, ?_⟩) ?_
    · intro W hW
      have q9 := block_at (i := 9) ((hW.block _ (lt_of_block hn7.out)).trans hn7.out) rfl
      clear hW
      go_simp
      first | done | with_reducible rfl
    try simp only [Act.put, List.setIfInBounds_toArray, List.set_cons_zero, List.set_cons_succ]
    ((first | (refine takeG 9 (v := ?_) rfl (by decide +kernel) (by decide +kernel) (by decide +kernel) (fun _ _ _ h => h) (Or.inl ⟨by rfl, ?_⟩) ?_; rotate_left 1; (focus (intro W hW; go_simp; first | done | with_reducible rfl)); try simp only [Act.put, List.setIfInBounds_toArray, List.set_cons_zero, List.set_cons_succ]) | (refine takeG 9 rfl (by decide +kernel) (by decide +kernel) (by decide +kernel) (fun _ _ _ h => h) (Or.inr ⟨by rfl, rfl⟩) ?_; try simp only [Act.put, List.setIfInBounds_toArray, List.set_cons_zero, List.set_cons_succ]) | skip); (first | (refine takeG 10 (v := ?_) rfl (by decide +kernel) (by decide +kernel) (by decide +kernel) (fun _ _ _ h => h) (Or.inl ⟨by rfl, ?_⟩) ?_; rotate_left 1; (focus (intro W hW; go_simp; first | done | with_reducible rfl)); try simp only [Act.put, List.setIfInBounds_toArray, List.set_cons_zero, List.set_cons_succ]) | (refine takeG 10 rfl (by decide +kernel) (by decide +kernel) (by decide +kernel) (fun _ _ _ h => h) (Or.inr ⟨by rfl, rfl⟩) ?_; try simp only [Act.put, List.setIfInBounds_toArray, List.set_cons_zero, List.set_cons_succ]) | skip); (first | (refine takeG 11 (v := ?_) rfl (by decide +kernel) (by decide +kernel) (by decide +kernel) (fun _ _ _ h => h) (Or.inl ⟨by rfl, ?_⟩) ?_; rotate_left 1; (focus (intro W hW; go_simp; first | done | with_reducible rfl)); try simp only [Act.put, List.setIfInBounds_toArray, List.set_cons_zero, List.set_cons_succ]) | (refine takeG 11 rfl (by decide +kernel) (by decide +kernel) (by decide +kernel) (fun _ _ _ h => h) (Or.inr ⟨by rfl, rfl⟩) ?_; try simp only [Act.put, List.setIfInBounds_toArray, List.set_cons_zero, List.set_cons_succ]) | skip); (first | (refine takeG 12 (v := ?_) rfl (by decide +kernel) (by decide +kernel) (by decide +kernel) (fun _ _ _ h => h) (Or.inl ⟨by rfl, ?_⟩) ?_; rotate_left 1; (focus (intro W hW; go_simp; first | done | with_reducible rfl)); try simp only [Act.put, List.setIfInBounds_toArray, List.set_cons_zero, List.set_cons_succ]) | (refine takeG 12 rfl (by decide +kernel) (by decide +kernel) (by decide +kernel) (fun _ _ _ h => h) (Or.inr ⟨by rfl, rfl⟩) ?_; try simp only [Act.put, List.setIfInBounds_toArray, List.set_cons_zero, List.set_cons_succ]) | skip); (first | (refine takeG 13 (v := ?_) rfl (by decide +kernel) (by decide +kernel) (by decide +kernel) (fun _ _ _ h => h) (Or.inl ⟨by rfl, ?_⟩) ?_; rotate_left 1; (focus (intro W hW; go_simp; first | done | with_reducible rfl)); try simp only [Act.put, List.setIfInBounds_toArray, List.set_cons_zero, List.set_cons_succ]) | (refine takeG 13 rfl (by decide +kernel) (by decide +kernel) (by decide +kernel) (fun _ _ _ h => h) (Or.inr ⟨by rfl, rfl⟩) ?_; try simp only [Act.put, List.setIfInBounds_toArray, List.set_cons_zero, List.set_cons_succ]) | skip))
    refine stepG 14 rfl (by decide +kernel) (by rfl) ?_
    intro K hK
    go_simp
    refine (KL.out w7 hb7.out).mono ?_
    rintro e w8 ⟨rfl, b8⟩
    refine hK _ _ b8 ?_
    clear hK K s7 s8
    try simp only [Act.put, List.setIfInBounds_toArray, List.set_cons_zero, List.set_cons_succ]
    ((first | (refine takeG 15 (v := ?_) rfl (by decide +kernel) (by decide +kernel) (by decide +kernel) (fun _ _ _ h => h) (Or.inl ⟨by rfl, ?_⟩) ?_; rotate_left 1; (focus (intro W hW; go_simp; first | done | with_reducible rfl)); try simp only [Act.put, List.setIfInBounds_toArray, List.set_cons_zero, List.set_cons_succ]) | (refine takeG 15 rfl (by decide +kernel) (by decide +kernel) (by decide +kernel) (fun _ _ _ h => h) (Or.inr ⟨by rfl, rfl⟩) ?_; try simp only [Act.put, List.setIfInBounds_toArray, List.set_cons_zero, List.set_cons_succ]) | skip); (first | (refine takeG 16 (v := ?_) rfl (by decide +kernel) (by decide +kernel) (by decide +kernel) (fun _ _ _ h => h) (Or.inl ⟨by rfl, ?_⟩) ?_; rotate_left 1; (focus (intro W hW; go_simp; first | done | with_reducible rfl)); try simp only [Act.put, List.setIfInBounds_toArray, List.set_cons_zero, List.set_cons_succ]) | (refine takeG 16 rfl (by decide +kernel) (by decide +kernel) (by decide +kernel) (fun _ _ _ h => h) (Or.inr ⟨by rfl, rfl⟩) ?_; try simp only [Act.put, List.setIfInBounds_toArray, List.set_cons_zero, List.set_cons_succ]) | skip))
    refine doneG (by kernel_rfl) ?_
    go_wp2
    go_ret
    exact ⟨rfl, hb7.out.trans (b8.mono hb7.out.size)⟩
  · have KT := fun W hLW hR => text_bad W hLW r ok A c xs hR hd hE
    rw [show encE r xs = [] from if_neg hE] at KE
    have hE9 : errR r xs = 1 ∨ errR r xs = 3 := by
      unfold errR at hE ⊢
      split
      · rename_i h; rw [if_pos h] at hE; split
        · rename_i h2; rw [if_pos h2] at hE; exact absurd rfl hE
        · exact .inr rfl
      · exact .inl rfl
    generalize errR r xs = E at KC KP KE hE hE9
    obtain ⟨p0, p1, p2, p3, p4, p5, p6, p7, p8, p9, p10⟩ := r
    simp only at hd
    subst hd
    simp only [pcells, ResS] at KC KP KE KT ⊢
    have KCh := Lib.hid KC
    have KPh := Lib.hid KP
    have KEh := Lib.hid KE
    have KTh := Lib.hid KT
    have hn1 := Lib.hid (heap_alloc_new w (.cells #[.int .u8 (p0 : Int), .int .u8 (p1 : Int), .int .u8 (p2 : Int), .int .u16 (p3 : Int), .int .u8 (p4 : Int), .int .u8 (p5 : Int), .bool p6, .bool p7, .int .u8 (p8 : Int), .slice A xs.length c] 29))
    have hb1 := Lib.hid ((Below.refl w.heap.size w).alloc (Nat.le_refl _) (.cells #[.int .u8 (p0 : Int), .int .u8 (p1 : Int), .int .u8 (p2 : Int), .int .u16 (p3 : Int), .int .u8 (p4 : Int), .int .u8 (p5 : Int), .bool p6, .bool p7, .int .u8 (p8 : Int), .slice A xs.length c] 29))
    have hx1 := Lib.hid (hx.belowTop hb1.out)
    have s1 := hx1.out.cw
    have m0 : ¬ (E : Int) = 0 := by omega
    have m1 : ((E : Int) == 0) = false := beq_eq_false_iff_ne.2 m0
    have m2 : ((E : Int) != 0) = true := by rw [bne, m1]; rfl
    clear KC KP KE KT hE ok hL hx hE9
    go_enter Tryz.func3, Tryz.ntmps3
    go_wp2_with fail
    generalize w.alloc (.cells #[.int .u8 (p0 : Int), .int .u8 (p1 : Int), .int .u8 (p2 : Int), .int .u16 (p3 : Int), .int .u8 (p4 : Int), .int .u8 (p5 : Int), .bool p6, .bool p7, .int .u8 (p8 : Int), .slice A xs.length c] 29) = W at hn1 hb1 hx1 s1 ⊢
    generalize w.heap.size = G at hn1 ⊢
    refine (KCh.out _).mono ?_
    rintro e w2 ⟨rfl, b2⟩
    have hn2 := Lib.hid ((b2.block _ (lt_of_block hn1.out)).trans hn1.out)
    have hb2 := Lib.hid (hb1.out.trans (b2.mono hb1.out.size))
    have hx2 := Lib.hid (hx1.out.belowTop b2)
    clear b2 hn1 hb1 hx1 s1 KCh
    have k0 := block_at (i := 0) hn2.out rfl
    have k1 := block_at (i := 1) hn2.out rfl
    have k2 := block_at (i := 2) hn2.out rfl
    have k3 := block_at (i := 3) hn2.out rfl
    have k4 := block_at (i := 4) hn2.out rfl
    have k5 := block_at (i := 5) hn2.out rfl
    have k6 := block_at (i := 6) hn2.out rfl
    have k7 := block_at (i := 7) hn2.out rfl
    have k8 := block_at (i := 8) hn2.out rfl
    have k9 := block_at (i := 9) hn2.out rfl
    go_wp2_with fail
    refine (KEh.out w2 (hLh.out.below hb2.out) hx2.out).mono ?_
    rintro e w3 ⟨v3, rfl, o3, b3⟩
    obtain ⟨A3, c3, rfl, r3⟩ := Rd.of_own o3
    have hn3 := Lib.hid ((b3.block _ (lt_of_block hn2.out)).trans hn2.out)
    have hb3 := Lib.hid (hb2.out.trans (b3.mono hb2.out.size))
    have hx3 := Lib.hid (hx2.out.belowTop b3)
    clear k0 k1 k2 k3 k4 k5 k6 k7 k8 k9 b3 hn2 hb2 hx2 KEh o3 r3
    have k0 := block_at (i := 0) hn3.out rfl
    have k1 := block_at (i := 1) hn3.out rfl
    have k2 := block_at (i := 2) hn3.out rfl
    have k3 := block_at (i := 3) hn3.out rfl
    have k4 := block_at (i := 4) hn3.out rfl
    have k5 := block_at (i := 5) hn3.out rfl
    have k6 := block_at (i := 6) hn3.out rfl
    have k7 := block_at (i := 7) hn3.out rfl
    have k8 := block_at (i := 8) hn3.out rfl
    have k9 := block_at (i := 9) hn3.out rfl
    go_wp2_with fail
    refine (KPh.out w3 (hLh.out.below hb3.out) hx3.out).mono ?_
    rintro e w4 ⟨rfl, b4⟩
    have hn4 := Lib.hid ((b4.block _ (lt_of_block hn3.out)).trans hn3.out)
    have hb4 := Lib.hid (hb3.out.trans (b4.mono hb3.out.size))
    have hx4 := Lib.hid (hx3.out.belowTop b4)
    clear k0 k1 k2 k3 k4 k5 k6 k7 k8 k9 b4 hn3 hb3 hx3 KPh
    have k0 := block_at (i := 0) hn4.out rfl
    have k1 := block_at (i := 1) hn4.out rfl
    have k2 := block_at (i := 2) hn4.out rfl
    have k3 := block_at (i := 3) hn4.out rfl
    have k4 := block_at (i := 4) hn4.out rfl
    have k5 := block_at (i := 5) hn4.out rfl
    have k6 := block_at (i := 6) hn4.out rfl
    have k7 := block_at (i := 7) hn4.out rfl
    have k8 := block_at (i := 8) hn4.out rfl
    have k9 := block_at (i := 9) hn4.out rfl
    go_wp2_with fail
    refine (KTh.out w4 (hLh.out.below hb4.out) hx4.out).mono ?_
    rintro e w5 ⟨rfl, b5⟩
    have hb5 := Lib.hid (hb4.out.trans (b5.mono hb4.out.size))
    clear k0 k1 k2 k3 k4 k5 k6 k7 k8 k9 b5 hn4 hb4 hx4 KTh
    go_wp2_with fail
    refine (KL.out w5 hb5.out).mono ?_
    rintro e w8 ⟨rfl, b8⟩
    go_wp2
    go_ret
    exact ⟨rfl, hb5.out.trans (b8.mono hb5.out.size)⟩

theorem lawCheck_any (w : World) (hL : Laid w) (r : Rg) (ok : r.Ok) (A : Option Addr) (c : Nat) (xs : List UInt8) (hx : Rd w w.heap.size A c xs) (hd : r.data = .slice A xs.length c) :
    Calls Tryz.prog 3 #[.agg (pcells r)] w (ResB w true) := by
  by_cases h : 1100 < xs.length
  · obtain ⟨p0, p1, p2, p3, p4, p5, p6, p7, p8, p9, p10⟩ := r
    simp only at hd
    subst hd
    exact lawCheck_skip w p0 p1 p2 p3 p4 p5 p8 p6 p7 A _ c h
  · exact lawCheck_in w hL r ok A c xs hx hd (by omega)

end Go.Proofs.YtfblpakoibadoaaGreatDoor
