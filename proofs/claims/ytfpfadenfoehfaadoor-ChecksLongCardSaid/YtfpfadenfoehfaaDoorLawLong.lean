/-
  Helper text: the walk of the law ChecksLong; no statement is proved here.
-/
import Derived.Test.YtfpfadenfoehfaaDoorLongP
import Derived.LoopNIn
namespace Go.Proofs.YtfpfadenfoehfaaDoor
open Go Go.RowKit

/-- A slice of uint16 reads as the numbers ns. -/
structure Rd16 (w : World) (B : Nat) (A : Option Addr) (c : Nat) (ns : List Nat) : Prop where
  le : ns.length ≤ c
  cells : 0 < ns.length → ∃ b off, A = some ⟨b, off, none⟩ ∧ b < B ∧ ∀ j, j < ns.length → w.cell? ⟨b, off + j, none⟩ = some (.int .u16 (ns.getD j 0 : Int))
  lt : ∀ j, ns.getD j 0 < 65536
theorem Rd16.keep {w w' : World} {B c : Nat} {A : Option Addr} {ns : List Nat} (h : Rd16 w B A c ns) (hb : Below B w w') : Rd16 w' B A c ns :=
  ⟨h.le, fun hn => by
    obtain ⟨b, off, e, hbB, hc⟩ := h.cells hn
    exact ⟨b, off, e, hbB, fun j hj => (hb.cell (p := ⟨b, off + j, none⟩) hbB).trans (hc j hj)⟩, h.lt⟩

theorem cnt_le (k x : Nat) : cnt k x ≤ k := by
  induction k generalizing x with
  | zero => exact Nat.le_refl _
  | succ k ih =>
    have := ih (x / 2)
    have h2 : x % 2 < 2 := Nat.mod_lt _ (by omega)
    show x % 2 + cnt k (x / 2) ≤ k + 1
    omega
def repL (xs : List UInt8) (k : Nat) : List UInt8 := (List.replicate k xs).flatten
theorem repL_succ (xs : List UInt8) (k : Nat) : repL xs (k + 1) = repL xs k ++ xs := by
  unfold repL
  rw [List.replicate_succ', List.flatten_append]
  simp
theorem repL_len (xs : List UInt8) (k : Nat) : (repL xs k).length = k * xs.length := by
  induction k with
  | zero => simp [repL]
  | succ k ih => rw [repL_succ, List.length_append, ih, Nat.succ_mul]

set_option maxHeartbeats 8000000 in
set_option maxRecDepth 100000 in
theorem lawLong_in (w : World) (hL : Laid w) (A AA : Option Addr) (c cc : Nat) (xs : List UInt8) (ns : List Nat) (h : Rd w w.heap.size A c xs) (hA : Rd16 w w.heap.size AA cc ns) (t Bu : Nat) (ht : t < 256) (hBu : Bu < 65536)
    (hx : xs.length ≤ 60) (hP : t * xs.length ≤ 1024) (hn : ns.length ≤ 31) :
    Calls Tryd.prog 7 #[.slice A xs.length c, .int .u8 (t : Int), .agg #[.slice AA ns.length cc, .int .u16 (Bu : Int)]] w (ResB w true) := by
  have t1 : ¬ (60 : Int) < (xs.length : Int) := by omega
  have t2 : (xs.length : Int) * (t : Int) = ((t * xs.length : Nat) : Int) := by rw [Int.natCast_mul, Int.mul_comm]
  have t3 : ¬ (31 : Int) < (ns.length : Int) := by omega
  have hmono : ∀ k, k ≤ t → k * xs.length ≤ 1024 := fun k hk => Nat.le_trans (Nat.mul_le_mul_right _ hk) hP
  generalize t * xs.length = P at t2 hP
  have t4 : ¬ (1024 : Int) < (P : Int) := by omega
  have hMono := Lib.hid hmono
  clear hmono
  have hb0 := (Below.refl w.heap.size w).alloc (Nat.le_refl _) (.cells #[.slice AA ns.length cc, .int .u16 (Bu : Int)] 47)
  have hx0 := heap_alloc_new w (.cells #[.slice AA ns.length cc, .int .u16 (Bu : Int)] 47)
  have hs0 : w.heap.size < (w.alloc (.cells #[.slice AA ns.length cc, .int .u16 (Bu : Int)] 47)).heap.size := by simp
  have e0 : (w.alloc (.cells #[.slice AA ns.length cc, .int .u16 (Bu : Int)] 47)).cell? ⟨w.heap.size, 0, none⟩ = some (.slice AA ns.length cc) := by rw [cell_of_row _ _ _ _ _ _ hx0]; rfl
  have e1 : (w.alloc (.cells #[.slice AA ns.length cc, .int .u16 (Bu : Int)] 47)).cell? ⟨w.heap.size, 1, none⟩ = some (.int .u16 (Bu : Int)) := by rw [cell_of_row _ _ _ _ _ _ hx0]; rfl
  have h' := h.belowTop hb0
  have hA' := hA.keep hb0
  go_enter Tryd.func7, Tryd.ntmps7
  go_wp2
  generalize hW0 : w.alloc (.cells #[.slice AA ns.length cc, .int .u16 (Bu : Int)] 47) = W0 at hb0 hx0 hs0 e0 e1 h' hA' ⊢
  clear hx0 hW0 t1 t2 t3 t4 h hA
  have HE0 := Lib.hid e0
  have HE1 := Lib.hid e1
  clear e0 e1
  go_loopw [7, 8] (fun p i wr => ∃ k : Nat, k ≤ t ∧ i = .int .i64 k ∧ wr.ownsRow W0.heap.size 5 1 p (repL xs k).length ((repL xs k).map bv) ∧ Below W0.heap.size W0 wr) (fun _ i _ => t - (intOf i).toNat)
  case atStart => exact ⟨0, Nat.zero_le _, rfl, own_nil _ _ _, Below.refl _ _⟩
  case round =>
    obtain ⟨k, hk, rfl, hown, hb⟩ := hrel
    by_cases hlt : k < t
    · have hys : (repL xs k).length ≤ 1024 := by rw [repL_len]; exact hMono.out k hk
      have hnext := repL_succ xs k
      generalize repL xs k = ys at hown hys hnext
      have Hn := Lib.hid hnext
      have hr := h'.below hb
      clear hnext
      go_wp2_with (at_builtin; refine wpl_appendN Tryd.underlying33 Tryd.info5 rfl (.tmp 45) (.tmp 46) rfl W0.heap.size _ ys rfl hown W0.heap.size c A xs hr rfl (by omega) hb.size ?_; intro v' w2 hown2 hb3)
      go_roundw
      case rel => exact ⟨k + 1, by omega, by go_num, by rw [Hn.out]; exact hown2, hb.trans hb3⟩
      case measure => simp [intOf]; omega
    · have hk9 : k = t := by omega
      subst hk9
      have hpl : (repL xs k).length ≤ 1024 := by rw [repL_len]; exact hMono.out k hk
      obtain ⟨A1, c1, rfl, r1⟩ := Rd.of_own hown
      have KA := add_any wr (hL.below (hb0.trans (hb.mono (Nat.le_of_lt hs0)))) A1 c1 _ r1 (by omega)
      have hok : chkL (frontL (addL (repL xs k))) = lastL (addL (repL xs k)) := by rw [front_add, last_add]
      have hal := addL_len (repL xs k)
      generalize addL (repL xs k) = ps at KA hok hal
      generalize repL xs k = pre at hown hpl r1 KA hal
      have HKA := Lib.hid KA
      have Hok := Lib.hid hok
      have Hal := Lib.hid hal
      clear KA hok hal hown
      go_wp2_with fail
      refine HKA.out.mono ?_
      rintro e w2 ⟨v2, rfl, own2, b2⟩
      obtain ⟨A2, c2, rfl, r2⟩ := Rd.of_own own2
      have b2' := hb.trans (b2.mono hb.size)
      have hp2 : 2 ≤ ps.length := by have := Hal.out; omega
      have hpm : ps.length ≤ 1026 := by have := Hal.out; omega
      clear own2 b2 r1
      have hq0 := own_built w2 5 [] (by simp)
      have r2q := r2.alloc (Nat.le_refl _) (.cells (([] : List UInt8).map bv).toArray 5)
      have l1 : ¬ (ps.length : Int) < 2 := by omega
      obtain ⟨n, hn8⟩ : ∃ n, n = 8 * ps.length := ⟨_, rfl⟩
      have l2 : 8 * (ps.length : Int) = (n : Int) := by omega
      have hnb : n ≤ 8208 := by omega
      have Hn8 := Lib.hid hn8
      clear hn8
      go_wp2_with (at_builtin; refine wpl_appendN Tryd.underlying33 Tryd.info5 rfl (.tmp 56) (.tmp 57) rfl w2.heap.size _ [] rfl hq0 w2.heap.size c2 A2 ps r2q rfl (by simp; omega) (by simp) ?_; intro v3 w3 own3 b3; rw [List.nil_append] at own3; obtain ⟨A3, c3, rfl, _⟩ := Rd.of_own own3; have Hown3 := Lib.hid own3; clear own3)
      have own3 := Hown3.out
      have hz2 := b2'.size
      clear l1 l2 r2q hq0
      go_loopw [11, 12] (fun i _ wr => ∃ k : Nat, k ≤ ns.length ∧ i = .int .i64 k ∧ (∃ qs : List UInt8, qs.length = ps.length ∧ wr.ownsRow w2.heap.size 5 1 (.slice A3 ps.length c3) qs.length (qs.map bv)) ∧ Below w2.heap.size w2 wr) (fun i _ _ => ns.length - (intOf i).toNat)
      case atStart => exact ⟨0, Nat.zero_le _, rfl, ⟨ps, rfl, own3⟩, ((Below.refl w2.heap.size w2).alloc (Nat.le_refl _) _).trans b3⟩
      case round =>
        obtain ⟨k2, hk2, rfl, ⟨qs, hqs, hown⟩, hb⟩ := hrel
        have hbW := b2'.trans (hb.mono hz2)
        have e0 : wr.cell? ⟨w.heap.size, 0, none⟩ = some (.slice AA ns.length cc) := (hbW.cell (p := ⟨w.heap.size, 0, none⟩) hs0).trans HE0.out
        have e1 : wr.cell? ⟨w.heap.size, 1, none⟩ = some (.int .u16 (Bu : Int)) := (hbW.cell (p := ⟨w.heap.size, 1, none⟩) hs0).trans HE1.out
        by_cases hlt2 : k2 < ns.length
        · obtain ⟨b4, o4, rfl, hbB4, hc4⟩ := (hA'.keep (hbW.mono (Nat.le_of_lt hs0))).cells (by omega)
          have c4 := hc4 k2 hlt2
          have hlt16 := hA'.lt k2
          generalize ns.getD k2 0 = num at c4 hlt16
          have hn0 : 0 < n := by have := Hn8.out; omega
          have q1 : (num : Int) % (n : Int) = ((num % n : Nat) : Int) := by simp only [Int.natCast_emod]
          have hal2 := Nat.mod_lt num hn0
          generalize num % n = a at q1 hal2
          have q2 : (a : Int) / 8 = ((a / 8 : Nat) : Int) := by omega
          have q3 : (a : Int) % 8 = ((a % 8 : Nat) : Int) := by omega
          have ha8 : a / 8 < ps.length := by have := Hn8.out; omega
          have hr8 : a % 8 < 8 := Nat.mod_lt _ (by omega)
          generalize a / 8 = a8 at q2 ha8
          generalize a % 8 = r8 at q3 hr8
          obtain ⟨o8, ho8⟩ : ∃ o8, 2 ^ r8 = o8 := ⟨_, rfl⟩
          have ho8l : o8 ≤ 128 := by have := Nat.pow_le_pow_right (n := 2) (by omega) (show r8 ≤ 7 by omega); omega
          have q4 : (2 : Int) ^ r8 = (o8 : Int) := by rw [← ho8]; simp only [Int.natCast_pow]; rfl
          obtain ⟨g, cg, e, hg, hf, hc, hst⟩ := own_store hown (by omega)
          injection e with eA eN eC
          subst eA
          have d1 : wr.cell? ⟨g, a8, none⟩ = some (.int .u8 ((qs.getD a8 0).toNat : Int)) := hc a8 (by omega)
          have f1 := hf a8
          have hx8 : (qs.getD a8 0).toNat < 256 := (qs.getD a8 0).toNat_lt
          have q5 := bxor8 (a := (qs.getD a8 0).toNat) (b := o8) hx8 (by omega)
          have hyl : (qs.getD a8 0).toNat ^^^ o8 < 2 ^ 8 := Nat.xor_lt_two_pow (by omega) (by omega)
          have hs1 := hst a8 (UInt8.ofNat ((qs.getD a8 0).toNat ^^^ o8)) (by omega)
          rw [show bv (UInt8.ofNat ((qs.getD a8 0).toNat ^^^ o8)) = .int .u8 (((qs.getD a8 0).toNat ^^^ o8 : Nat) : Int) from by show Value.int .u8 _ = _; rw [bit_ofNat (by omega)]] at hs1
          generalize hyy : UInt8.ofNat ((qs.getD a8 0).toNat ^^^ o8) = yb at hs1
          generalize (qs.getD a8 0).toNat ^^^ o8 = y8 at q5 hs1
          generalize (qs.getD a8 0).toNat = x8 at d1 q5 hx8
          have Hs1 := Lib.hid hs1
          have Hqs := Lib.hid hqs
          have q6 : (a8 : Int) < (ps.length : Int) := by omega
          have q7 : (n : Int) ≠ 0 := by omega
          clear hs1 hst hc hqs hown hyy hyl ho8 hc4
          go_wp2
          go_roundw
          case rel => exact ⟨k2 + 1, by omega, by go_num, ⟨_, by rw [List.length_set]; exact Hqs.out, Hs1.out⟩, hb.setCell hg _⟩
          case measure => simp [intOf]; omega
        · have hk29 : k2 = ns.length := by omega
          subst hk29
          have r3 : Rd wr wr.heap.size A3 c3 qs := Rd.of_own_at hown
          have r2w := r2.below hb
          obtain ⟨E, hE⟩ : ∃ E, leV ps ^^^ leV qs = E := ⟨_, rfl⟩
          obtain ⟨wq, hwq⟩ : ∃ wq : World, wq = wr := ⟨_, rfl⟩
          have hEw := Lib.hid hE
          have Hqs := Lib.hid hqs
          clear hE hown hqs
          go_wp2
          go_loopw [13, 14] (fun cv i w' => ∃ k : Nat, k ≤ n ∧ i = .int .i64 k ∧ cv = .int .i64 (cnt k E : Int) ∧ Below wq.heap.size wq w') (fun _ i _ => n - (intOf i).toNat)
          case atStart => exact ⟨0, Nat.zero_le _, rfl, rfl, by rw [hwq]; exact Below.refl _ _⟩
          case round =>
            subst hwq
            obtain ⟨k3, hk3, rfl, rfl, hbq⟩ := hrel
            have hcl := cnt_le k3 E
            by_cases hlt3 : k3 < n
            · have hj8 : k3 / 8 < ps.length := by have := Hn8.out; omega
              have hbit := count_bit ps qs k3
              rw [hEw.out] at hbit
              obtain ⟨bp, op, hAp, hbBp, hcp⟩ := (r2w.below (hbq.mono hb.size)).cells (by omega)
              obtain ⟨bq, oq, hAq, hbBq, hcq⟩ := (r3.below hbq).cells (by have := Hqs.out; omega)
              have hsn := cnt_snoc k3 E
              have q2 : (k3 : Int) / 8 = ((k3 / 8 : Nat) : Int) := by omega
              have q2t : (k3 : Int).tdiv 8 = ((k3 / 8 : Nat) : Int) := by rw [Int.tdiv_eq_ediv_of_nonneg (by omega)]; omega
              have q3t : (k3 : Int).tmod 8 = ((k3 % 8 : Nat) : Int) := by rw [Int.tmod_eq_emod_of_nonneg (by omega)]; omega
              have cP : wr.cell? ⟨bp, op + k3 / 8, none⟩ = some (.int .u8 ((ps.getD (k3 / 8) 0).toNat : Int)) := hcp _ hj8
              have cQ : wr.cell? ⟨bq, oq + k3 / 8, none⟩ = some (.int .u8 ((qs.getD (k3 / 8) 0).toNat : Int)) := hcq _ (by have := Hqs.out; omega)
              have hr8 : k3 % 8 < 8 := Nat.mod_lt _ (by omega)
              have hP8 : (ps.getD (k3 / 8) 0).toNat < 256 := UInt8.toNat_lt _
              have hQ8 : (qs.getD (k3 / 8) 0).toNat < 256 := UInt8.toNat_lt _
              have q5 := bxor8 hP8 hQ8
              have hz8 : (ps.getD (k3 / 8) 0).toNat ^^^ (qs.getD (k3 / 8) 0).toNat < 2 ^ 8 := Nat.xor_lt_two_pow (by omega) (by omega)
              rw [hbit] at hsn
              clear hcp hcq hbit
              subst hAp
              subst hAq
              generalize (ps.getD (k3 / 8) 0).toNat ^^^ (qs.getD (k3 / 8) 0).toNat = z8 at q5 hz8 hsn
              generalize (ps.getD (k3 / 8) 0).toNat = x8 at cP q5
              generalize (qs.getD (k3 / 8) 0).toNat = y8 at cQ q5
              generalize k3 / 8 = j8 at q2 q2t cP cQ hj8
              generalize k3 % 8 = r8 at q3t hr8 hsn
              have q6 : bits .and .u8 ((z8 : Int) / 2 ^ r8) 1 = ((z8 / 2 ^ r8 % 2 : Nat) : Int) := by
                have hd : z8 / 2 ^ r8 < 256 := Nat.lt_of_le_of_lt (Nat.div_le_self _ _) (by omega)
                have := band8 (a := z8 / 2 ^ r8) (b := 1) hd (by omega)
                rw [and_one'] at this
                rw [show (z8 : Int) / 2 ^ r8 = ((z8 / 2 ^ r8 : Nat) : Int) from by simp only [Int.natCast_ediv, Int.natCast_pow]; rfl]
                exact this
              have hb2 : z8 / 2 ^ r8 % 2 < 2 := Nat.mod_lt _ (by omega)
              generalize z8 / 2 ^ r8 % 2 = bt at q6 hb2 hsn
              generalize cnt k3 E = C at hcl hsn
              have q7 : IntKind.i64.wrap (bt : Int) = (bt : Int) := IntWalk.i64_in _ (by omega)
              have q8 : IntKind.i64.wrap ((C : Int) + (bt : Int)) = (C : Int) + (bt : Int) := IntWalk.i64_in _ (by omega)
              have q9 : IntKind.u64.wrap (r8 : Int) = (r8 : Int) := by rw [IntKind.wrap_u64]; omega
              have q10 : (j8 : Int) < (ps.length : Int) := by omega
              have q11 : IntKind.i64.wrap (j8 : Int) = (j8 : Int) := IntWalk.i64_in _ (by omega)
              have q12 : IntKind.i64.wrap (r8 : Int) = (r8 : Int) := IntWalk.i64_in _ (by omega)
              have Hsn := Lib.hid hsn
              clear hsn
              go_wp2
              go_region
              clear q2 q2t q3t q5 q6 q7 q8 q9 q10 q11 q12 cP cQ
              go_wp2
              go_roundw
              case rel => exact ⟨k3 + 1, by omega, by go_num, by rw [Hsn.out]; push_cast; rfl, hbq.drew⟩
              case measure => simp [intOf]; omega
            · have hk39 : k3 = n := by omega
              subst hk39
              have rq := r3.belowTop hbq
              have hbP := hb.trans (hbq.mono hb.size)
              have r2z := r2w.below (hbq.mono hb.size)
              have hbW2 := b2'.trans (hbP.mono hz2)
              have hqs2 : 2 ≤ qs.length := by rw [Hqs.out]; exact hp2
              obtain ⟨J, Er, hJ⟩ : ∃ (J : List UInt8) (Er : Int), (chkL (frontL qs) = lastL qs ∧ J = frontL qs ∧ Er = 0) ∨ (chkL (frontL qs) ≠ lastL qs ∧ J = [] ∧ Er = 10) := by
                by_cases hh : chkL (frontL qs) = lastL qs
                · exact ⟨_, _, .inl ⟨hh, rfl, rfl⟩⟩
                · exact ⟨_, _, .inr ⟨hh, rfl, rfl⟩⟩
              have KC := check_core wr (hL.below (hb0.trans (hbW2.mono (Nat.le_of_lt hs0)))) A3 c3 qs rq hqs2 (by rw [Hqs.out]; omega) J Er hJ
              rw [Hqs.out] at KC
              have HKC := Lib.hid KC
              have hcond : (¬ cnt k3 E % 2 = 1 ∧ ¬ cnt k3 E = 2) ∨ (cnt k3 E % 2 = 1 ∧ Er = 10) ∨ (cnt k3 E = 2 ∧ Er = 10) := by
                rcases hJ with ⟨hh, _, hE0⟩ | ⟨_, _, hE0⟩
                · have hno : ¬ (cnt k3 E % 2 = 1 ∨ cnt k3 E = 2) := fun hc => by
                    have hE2 : E < 2 ^ k3 := by
                      rw [← hEw.out, Hn8.out]
                      have h1 := leV_lt ps
                      have h2 := leV_lt qs
                      rw [Hqs.out] at h2
                      exact Nat.xor_lt_two_pow h1 h2
                    have hs := count_err hE2 (by have := Hn8.out; omega) hnb hc
                    rw [← hEw.out, Hn8.out] at hs
                    exact long_err Hok.out hp2 Hqs.out hs hh
                  exact .inl ⟨fun h => hno (.inl h), fun h => hno (.inr h)⟩
                · by_cases h1 : cnt k3 E % 2 = 1
                  · exact .inr (.inl ⟨h1, hE0⟩)
                  · by_cases h2 : cnt k3 E = 2
                    · exact .inr (.inr ⟨h2, hE0⟩)
                    · exact .inl ⟨h1, h2⟩
              have hcl := cnt_le k3 E
              generalize cnt k3 E = C at hcond hcl
              clear KC hJ
              go_wp2_with fail
              refine HKC.out.mono ?_
              rintro e w5 ⟨v5, rfl, _, b5⟩
              have hbW5 := hbW2.trans (b5.mono hbW2.size)
              have hbP5 := hbP.trans (b5.mono hbP.size)
              have r25 := r2z.below (b5.mono (hb.trans (hbq.mono hb.size)).size)
              have e50 : w5.cell? ⟨w.heap.size, 0, none⟩ = some (.slice AA ns.length cc) := (hbW5.cell (p := ⟨w.heap.size, 0, none⟩) hs0).trans HE0.out
              have e51 : w5.cell? ⟨w.heap.size, 1, none⟩ = some (.int .u16 (Bu : Int)) := (hbW5.cell (p := ⟨w.heap.size, 1, none⟩) hs0).trans HE1.out
              have hLw5 := hL.below (hb0.trans (hbW5.mono (Nat.le_of_lt hs0)))
              have hbw5 := hb0.trans (hbW5.mono (Nat.le_of_lt hs0))
              clear e0 e1 rq r3 r2w r2z hbq b5
              rcases hcond with ⟨g1, g2⟩ | ⟨g1, rfl⟩ | ⟨g2, rfl⟩
              · have g3 : ((C : Int) % 2 == 1) = false := by rw [beq_eq_false_iff_ne]; omega
                have g4 : ((C : Int) == 2) = false := by rw [beq_eq_false_iff_ne]; omega
                have g5 : ¬ (C : Int) % 2 = 1 := by omega
                have g6 : ¬ (C : Int) = 2 := by omega
                clear g1 g2
                by_cases hn0 : ns.length = 0
                · have g7 : (ns.length : Int) = 0 := by omega
                  have g8 : ((ns.length : Int) == 0) = true := by rw [g7]; rfl
                  go_wp2_with fail
                  refine (lives_any _ hLw5).mono ?_
                  rintro e w6 ⟨rfl, b6⟩
                  go_wp2
                  go_ret
                  exact ⟨rfl, hbw5.trans (b6.mono hbw5.size)⟩
                · have g7 : ¬ (ns.length : Int) = 0 := by omega
                  have g8 : ((ns.length : Int) == 0) = false := by rw [beq_eq_false_iff_ne]; exact g7
                  by_cases hB0 : Bu = 0
                  · have g9 : (Bu : Int) = 0 := by omega
                    have g10 : ((Bu : Int) == 0) = true := by rw [g9]; rfl
                    go_wp2_with fail
                    refine (lives_any _ hLw5).mono ?_
                    rintro e w6 ⟨rfl, b6⟩
                    go_wp2
                    go_ret
                    exact ⟨rfl, hbw5.trans (b6.mono hbw5.size)⟩
                  · have g9 : ¬ (Bu : Int) = 0 := by omega
                    have g10 : ((Bu : Int) == 0) = false := by rw [beq_eq_false_iff_ne]; exact g9
                    have hq5 := own_built w5 5 [] (by simp)
                    have r25q := r25.alloc hbP5.size (.cells (([] : List UInt8).map bv).toArray 5)
                    go_wp2_with (at_builtin; refine wpl_appendN Tryd.underlying33 Tryd.info5 rfl (.tmp 135) (.tmp 136) rfl w5.heap.size _ [] rfl hq5 w2.heap.size c2 A2 ps r25q rfl (by simp; omega) (by simp) ?_; intro v6 w6 own6 b6; rw [List.nil_append] at own6; obtain ⟨A6, c6, rfl, _⟩ := Rd.of_own own6; have Hown6 := Lib.hid own6; clear own6)
                    have own6 := Hown6.out
                    have hn0' : 0 < k3 := by have := Hn8.out; omega
                    obtain ⟨b4, o4, rfl, hbB4, hc4⟩ := hA'.cells (by omega)
                    have hc40 := hc4 0 (by omega)
                    have hlt16 := hA'.lt 0
                    generalize ns.getD 0 0 = num at hc40 hlt16
                    have hHc40 := Lib.hid hc40
                    have p1 : (num : Int) % (k3 : Int) = ((num % k3 : Nat) : Int) := by simp only [Int.natCast_emod]
                    have hal2 := Nat.mod_lt num hn0'
                    generalize num % k3 = a at p1 hal2
                    have P1 := Lib.hid p1
                    clear p1 hc4 hc40 r25q hq5
                    go_loopw [17, 18, 19] (fun chv i _ wr => ∃ k : Nat, k ≤ 16 ∧ i = .int .i64 k ∧ (∃ ch : Bool, chv = .bool ch ∧ (ch = true → bst k3 a Bu k ≠ 0)) ∧ (∃ us : List UInt8, us.length = ps.length ∧ wr.ownsRow w5.heap.size 5 1 (.slice A6 ps.length c6) us.length (us.map bv) ∧ leV us = leV ps ^^^ bst k3 a Bu k) ∧ Below w5.heap.size w5 wr) (fun _ i _ _ => 16 - (intOf i).toNat)
                    case atStart => exact ⟨0, by omega, rfl, ⟨false, rfl, fun h => by cases h⟩, ⟨ps, rfl, own6, by rw [bst_zero, Nat.xor_zero]⟩, ((Below.refl w5.heap.size w5).alloc (Nat.le_refl _) _).trans b6⟩
                    case round =>
                      obtain ⟨k4, hk4, rfl, ⟨ch, rfl, hch⟩, ⟨us, hus, hown, hV⟩, hb6⟩ := hrel
                      have hbW6 := hbW5.trans (hb6.mono hbW5.size)
                      have e60 : wr.cell? ⟨w.heap.size, 0, none⟩ = some (.slice (some ⟨b4, o4, none⟩) ns.length cc) := (hbW6.cell (p := ⟨w.heap.size, 0, none⟩) hs0).trans HE0.out
                      have e61 : wr.cell? ⟨w.heap.size, 1, none⟩ = some (.int .u16 (Bu : Int)) := (hbW6.cell (p := ⟨w.heap.size, 1, none⟩) hs0).trans HE1.out
                      have d4 : wr.cell? ⟨b4, o4, none⟩ = some (.int .u16 (num : Int)) := (hbW6.cell (p := ⟨b4, o4, none⟩) (show b4 < W0.heap.size by omega)).trans hHc40.out
                      have p1 := P1.out
                      have hus' := Lib.hid hus
                      have hV' := Lib.hid hV
                      have hch' := Lib.hid hch
                      by_cases hlt4 : k4 < 16
                      · have s1 : (a : Int) + (k4 : Int) = ((a + k4 : Nat) : Int) := by push_cast; rfl
                        have s2 : bits .and .u16 ((Bu : Int) / 2 ^ k4) 1 = ((Bu / 2 ^ k4 % 2 : Nat) : Int) := by
                          have hd : Bu / 2 ^ k4 < 2 ^ 16 := Nat.lt_of_le_of_lt (Nat.div_le_self _ _) (by omega)
                          have := band16 (a := Bu / 2 ^ k4) (b := 1) hd (by omega)
                          rw [and_one'] at this
                          rw [show (Bu : Int) / 2 ^ k4 = ((Bu / 2 ^ k4 : Nat) : Int) from by simp only [Int.natCast_ediv, Int.natCast_pow]; rfl]
                          exact this
                        have hbt : Bu / 2 ^ k4 % 2 < 2 := Nat.mod_lt _ (by omega)
                        have hsum : a + k4 < 8224 := by omega
                        have hsame := bst_same (n := k3) (a := a) (B := Bu) (k := k4)
                        have hflip := bst_flip (n := k3) (a := a) (B := Bu) (k := k4)
                        generalize Bu / 2 ^ k4 % 2 = bt at s2 hbt hsame hflip
                        generalize a + k4 = m4 at s1 hsum hsame hflip
                        by_cases hin : m4 < k3 ∧ bt = 1
                        · obtain ⟨hin1, rfl⟩ := hin
                          obtain ⟨hf1, hf2⟩ := hflip hin1 rfl
                          have s2' : bits .and .u16 ((Bu : Int) / 2 ^ k4) 1 = 1 := s2
                          have s3 : (m4 : Int) < (k3 : Int) := by omega
                          have q2 : (m4 : Int) / 8 = ((m4 / 8 : Nat) : Int) := by omega
                          have q3 : (m4 : Int) % 8 = ((m4 % 8 : Nat) : Int) := by omega
                          have ha8 : m4 / 8 < ps.length := by have := Hn8.out; omega
                          have hr8 : m4 % 8 < 8 := Nat.mod_lt _ (by omega)
                          have hfl := leV_flip (xs := us) (at' := m4) (by omega)
                          rw [hV] at hfl
                          generalize m4 / 8 = a8 at q2 ha8 hfl
                          generalize m4 % 8 = r8 at q3 hr8 hfl
                          have q4 : (2 : Int) ^ r8 = ((2 ^ r8 : Nat) : Int) := by simp only [Int.natCast_pow]; rfl
                          have ho8l : 2 ^ r8 ≤ 128 := by have := Nat.pow_le_pow_right (n := 2) (by omega) (show r8 ≤ 7 by omega); omega
                          generalize 2 ^ r8 = o8 at q4 ho8l hfl
                          obtain ⟨g, cg, e, hg, hf, hc, hst⟩ := own_store hown (by omega)
                          injection e with eA eN eC
                          subst eA
                          have d1 : wr.cell? ⟨g, a8, none⟩ = some (.int .u8 ((us.getD a8 0).toNat : Int)) := hc a8 (by omega)
                          have f1 := hf a8
                          have hx8 : (us.getD a8 0).toNat < 256 := UInt8.toNat_lt _
                          have q5 := bxor8 (a := (us.getD a8 0).toNat) (b := o8) hx8 (by omega)
                          have hyl : (us.getD a8 0).toNat ^^^ o8 < 2 ^ 8 := Nat.xor_lt_two_pow (by omega) (by omega)
                          have hs1 := hst a8 (UInt8.ofNat ((us.getD a8 0).toNat ^^^ o8)) (by omega)
                          rw [show bv (UInt8.ofNat ((us.getD a8 0).toNat ^^^ o8)) = .int .u8 (((us.getD a8 0).toNat ^^^ o8 : Nat) : Int) from by show Value.int .u8 _ = _; rw [bit_ofNat (by omega)]] at hs1
                          generalize UInt8.ofNat ((us.getD a8 0).toNat ^^^ o8) = yb at hs1 hfl
                          generalize (us.getD a8 0).toNat ^^^ o8 = y8 at q5 hs1
                          generalize (us.getD a8 0).toNat = x8 at d1 q5 hx8
                          have hnew : leV (us.set a8 yb) = leV ps ^^^ bst k3 a Bu (k4 + 1) := by rw [hfl, hf1, Nat.xor_assoc]
                          have Hs1 := Lib.hid hs1
                          have Hnew := Lib.hid hnew
                          have Hf2 := Lib.hid hf2
                          have q6 : (a8 : Int) < (ps.length : Int) := by omega
                          have q7 : (k3 : Int) ≠ 0 := by omega
                          clear hs1 hnew hf1 hf2 hfl hsame hst hc hown hyl hV hch hus s2
                          go_wp2
                          go_roundw
                          case rel => exact ⟨k4 + 1, by omega, by go_num, ⟨true, rfl, fun _ => Hf2.out⟩, ⟨_, by rw [List.length_set]; exact hus'.out, Hs1.out, Hnew.out⟩, hb6.setCell hg _⟩
                          case measure => simp [intOf]; omega
                        · have hsm2 := hsame hin
                          have hnew : leV us = leV ps ^^^ bst k3 a Bu (k4 + 1) := by rw [hV, hsm2]
                          have hchn : ch = true → bst k3 a Bu (k4 + 1) ≠ 0 := by rw [hsm2]; exact hch
                          have Hnew := Lib.hid hnew
                          have Hchn := Lib.hid hchn
                          have Hown := Lib.hid hown
                          have q7 : (k3 : Int) ≠ 0 := by omega
                          clear hnew hchn hsm2 hsame hflip hV hch hus hown
                          by_cases hlt5 : m4 < k3
                          · obtain rfl : bt = 0 := by
                              by_cases h1 : bt = 1
                              · exact absurd ⟨hlt5, h1⟩ hin
                              · omega
                            have s2' : bits .and .u16 ((Bu : Int) / 2 ^ k4) 1 = 0 := s2
                            clear hin s2
                            go_wp2
                            go_roundw
                            case rel => exact ⟨k4 + 1, by omega, by go_num, ⟨ch, rfl, Hchn.out⟩, ⟨us, hus'.out, Hown.out, Hnew.out⟩, hb6⟩
                            case measure => simp [intOf]; omega
                          · have s3 : ¬ (m4 : Int) < (k3 : Int) := by omega
                            clear hin
                            go_wp2
                            go_roundw
                            case rel => exact ⟨k4 + 1, by omega, by go_num, ⟨ch, rfl, Hchn.out⟩, ⟨us, hus'.out, Hown.out, Hnew.out⟩, hb6⟩
                            case measure => simp [intOf]; omega
                      · have hk49 : k4 = 16 := by omega
                        subst hk49
                        have ru : Rd wr wr.heap.size A6 c6 us := Rd.of_own_at hown
                        have hLr := hL.below (hb0.trans (hbW6.mono (Nat.le_of_lt hs0)))
                        have hbwr := hb0.trans (hbW6.mono (Nat.le_of_lt hs0))
                        rcases ch with _ | _
                        · obtain ⟨J2, Er2, hJ2⟩ : ∃ (J : List UInt8) (Er : Int), (chkL (frontL us) = lastL us ∧ J = frontL us ∧ Er = 0) ∨ (chkL (frontL us) ≠ lastL us ∧ J = [] ∧ Er = 10) := by
                            by_cases hh : chkL (frontL us) = lastL us
                            · exact ⟨_, _, .inl ⟨hh, rfl, rfl⟩⟩
                            · exact ⟨_, _, .inr ⟨hh, rfl, rfl⟩⟩
                          have KC2 := check_core wr hLr A6 c6 us ru (by omega) (by omega) J2 Er2 hJ2
                          rw [hus] at KC2
                          have HKC2 := Lib.hid KC2
                          clear KC2 hJ2 hV hch hown hus e60 e61 d4 p1
                          go_wp2_with fail
                          refine HKC2.out.mono ?_
                          rintro e w7 ⟨v7, rfl, _, b7⟩
                          have hbw7 := hbwr.trans (b7.mono hbwr.size)
                          go_wp2_with fail
                          refine (lives_any _ (hL.below hbw7)).mono ?_
                          rintro e w8 ⟨rfl, b8⟩
                          go_wp2
                          go_ret
                          exact ⟨rfl, hbw7.trans (b8.mono hbw7.size)⟩
                        · have hne : chkL (frontL us) ≠ lastL us := by
                            refine long_err Hok.out hp2 hus ?_
                            rw [hV, ← Nat.xor_assoc, Nat.xor_self, Nat.zero_xor, ← Hn8.out]
                            exact bst_err hal2 (hch rfl)
                          have KC2 := check_sum wr hLr A6 c6 us ru (by omega) (by omega) hne
                          rw [hus] at KC2
                          have HKC2 := Lib.hid KC2
                          clear KC2 hne hV hch hown hus e60 e61 d4 p1
                          go_wp2_with fail
                          refine HKC2.out.mono ?_
                          rintro e w7 ⟨v7, rfl, _, b7⟩
                          have hbw7 := hbwr.trans (b7.mono hbwr.size)
                          go_wp2_with fail
                          refine (lives_any _ (hL.below hbw7)).mono ?_
                          rintro e w8 ⟨rfl, b8⟩
                          go_wp2
                          go_ret
                          exact ⟨rfl, hbw7.trans (b8.mono hbw7.size)⟩
              · have g3 : ((C : Int) % 2 == 1) = true := by rw [beq_iff_eq]; omega
                have g5 : (C : Int) % 2 = 1 := by omega
                clear g1
                by_cases hn0 : ns.length = 0
                · have g7 : (ns.length : Int) = 0 := by omega
                  have g8 : ((ns.length : Int) == 0) = true := by rw [g7]; rfl
                  go_wp2_with fail
                  refine (lives_any _ hLw5).mono ?_
                  rintro e w6 ⟨rfl, b6⟩
                  go_wp2
                  go_ret
                  exact ⟨rfl, hbw5.trans (b6.mono hbw5.size)⟩
                · have g7 : ¬ (ns.length : Int) = 0 := by omega
                  have g8 : ((ns.length : Int) == 0) = false := by rw [beq_eq_false_iff_ne]; exact g7
                  by_cases hB0 : Bu = 0
                  · have g9 : (Bu : Int) = 0 := by omega
                    have g10 : ((Bu : Int) == 0) = true := by rw [g9]; rfl
                    go_wp2_with fail
                    refine (lives_any _ hLw5).mono ?_
                    rintro e w6 ⟨rfl, b6⟩
                    go_wp2
                    go_ret
                    exact ⟨rfl, hbw5.trans (b6.mono hbw5.size)⟩
                  · have g9 : ¬ (Bu : Int) = 0 := by omega
                    have g10 : ((Bu : Int) == 0) = false := by rw [beq_eq_false_iff_ne]; exact g9
                    have hq5 := own_built w5 5 [] (by simp)
                    have r25q := r25.alloc hbP5.size (.cells (([] : List UInt8).map bv).toArray 5)
                    go_wp2_with (at_builtin; refine wpl_appendN Tryd.underlying33 Tryd.info5 rfl (.tmp 135) (.tmp 136) rfl w5.heap.size _ [] rfl hq5 w2.heap.size c2 A2 ps r25q rfl (by simp; omega) (by simp) ?_; intro v6 w6 own6 b6; rw [List.nil_append] at own6; obtain ⟨A6, c6, rfl, _⟩ := Rd.of_own own6; have Hown6 := Lib.hid own6; clear own6)
                    have own6 := Hown6.out
                    have hn0' : 0 < k3 := by have := Hn8.out; omega
                    obtain ⟨b4, o4, rfl, hbB4, hc4⟩ := hA'.cells (by omega)
                    have hc40 := hc4 0 (by omega)
                    have hlt16 := hA'.lt 0
                    generalize ns.getD 0 0 = num at hc40 hlt16
                    have hHc40 := Lib.hid hc40
                    have p1 : (num : Int) % (k3 : Int) = ((num % k3 : Nat) : Int) := by simp only [Int.natCast_emod]
                    have hal2 := Nat.mod_lt num hn0'
                    generalize num % k3 = a at p1 hal2
                    have P1 := Lib.hid p1
                    clear p1 hc4 hc40 r25q hq5
                    go_loopw [17, 18, 19] (fun chv i _ wr => ∃ k : Nat, k ≤ 16 ∧ i = .int .i64 k ∧ (∃ ch : Bool, chv = .bool ch ∧ (ch = true → bst k3 a Bu k ≠ 0)) ∧ (∃ us : List UInt8, us.length = ps.length ∧ wr.ownsRow w5.heap.size 5 1 (.slice A6 ps.length c6) us.length (us.map bv) ∧ leV us = leV ps ^^^ bst k3 a Bu k) ∧ Below w5.heap.size w5 wr) (fun _ i _ _ => 16 - (intOf i).toNat)
                    case atStart => exact ⟨0, by omega, rfl, ⟨false, rfl, fun h => by cases h⟩, ⟨ps, rfl, own6, by rw [bst_zero, Nat.xor_zero]⟩, ((Below.refl w5.heap.size w5).alloc (Nat.le_refl _) _).trans b6⟩
                    case round =>
                      obtain ⟨k4, hk4, rfl, ⟨ch, rfl, hch⟩, ⟨us, hus, hown, hV⟩, hb6⟩ := hrel
                      have hbW6 := hbW5.trans (hb6.mono hbW5.size)
                      have e60 : wr.cell? ⟨w.heap.size, 0, none⟩ = some (.slice (some ⟨b4, o4, none⟩) ns.length cc) := (hbW6.cell (p := ⟨w.heap.size, 0, none⟩) hs0).trans HE0.out
                      have e61 : wr.cell? ⟨w.heap.size, 1, none⟩ = some (.int .u16 (Bu : Int)) := (hbW6.cell (p := ⟨w.heap.size, 1, none⟩) hs0).trans HE1.out
                      have d4 : wr.cell? ⟨b4, o4, none⟩ = some (.int .u16 (num : Int)) := (hbW6.cell (p := ⟨b4, o4, none⟩) (show b4 < W0.heap.size by omega)).trans hHc40.out
                      have p1 := P1.out
                      have hus' := Lib.hid hus
                      have hV' := Lib.hid hV
                      have hch' := Lib.hid hch
                      by_cases hlt4 : k4 < 16
                      · have s1 : (a : Int) + (k4 : Int) = ((a + k4 : Nat) : Int) := by push_cast; rfl
                        have s2 : bits .and .u16 ((Bu : Int) / 2 ^ k4) 1 = ((Bu / 2 ^ k4 % 2 : Nat) : Int) := by
                          have hd : Bu / 2 ^ k4 < 2 ^ 16 := Nat.lt_of_le_of_lt (Nat.div_le_self _ _) (by omega)
                          have := band16 (a := Bu / 2 ^ k4) (b := 1) hd (by omega)
                          rw [and_one'] at this
                          rw [show (Bu : Int) / 2 ^ k4 = ((Bu / 2 ^ k4 : Nat) : Int) from by simp only [Int.natCast_ediv, Int.natCast_pow]; rfl]
                          exact this
                        have hbt : Bu / 2 ^ k4 % 2 < 2 := Nat.mod_lt _ (by omega)
                        have hsum : a + k4 < 8224 := by omega
                        have hsame := bst_same (n := k3) (a := a) (B := Bu) (k := k4)
                        have hflip := bst_flip (n := k3) (a := a) (B := Bu) (k := k4)
                        generalize Bu / 2 ^ k4 % 2 = bt at s2 hbt hsame hflip
                        generalize a + k4 = m4 at s1 hsum hsame hflip
                        by_cases hin : m4 < k3 ∧ bt = 1
                        · obtain ⟨hin1, rfl⟩ := hin
                          obtain ⟨hf1, hf2⟩ := hflip hin1 rfl
                          have s2' : bits .and .u16 ((Bu : Int) / 2 ^ k4) 1 = 1 := s2
                          have s3 : (m4 : Int) < (k3 : Int) := by omega
                          have q2 : (m4 : Int) / 8 = ((m4 / 8 : Nat) : Int) := by omega
                          have q3 : (m4 : Int) % 8 = ((m4 % 8 : Nat) : Int) := by omega
                          have ha8 : m4 / 8 < ps.length := by have := Hn8.out; omega
                          have hr8 : m4 % 8 < 8 := Nat.mod_lt _ (by omega)
                          have hfl := leV_flip (xs := us) (at' := m4) (by omega)
                          rw [hV] at hfl
                          generalize m4 / 8 = a8 at q2 ha8 hfl
                          generalize m4 % 8 = r8 at q3 hr8 hfl
                          have q4 : (2 : Int) ^ r8 = ((2 ^ r8 : Nat) : Int) := by simp only [Int.natCast_pow]; rfl
                          have ho8l : 2 ^ r8 ≤ 128 := by have := Nat.pow_le_pow_right (n := 2) (by omega) (show r8 ≤ 7 by omega); omega
                          generalize 2 ^ r8 = o8 at q4 ho8l hfl
                          obtain ⟨g, cg, e, hg, hf, hc, hst⟩ := own_store hown (by omega)
                          injection e with eA eN eC
                          subst eA
                          have d1 : wr.cell? ⟨g, a8, none⟩ = some (.int .u8 ((us.getD a8 0).toNat : Int)) := hc a8 (by omega)
                          have f1 := hf a8
                          have hx8 : (us.getD a8 0).toNat < 256 := UInt8.toNat_lt _
                          have q5 := bxor8 (a := (us.getD a8 0).toNat) (b := o8) hx8 (by omega)
                          have hyl : (us.getD a8 0).toNat ^^^ o8 < 2 ^ 8 := Nat.xor_lt_two_pow (by omega) (by omega)
                          have hs1 := hst a8 (UInt8.ofNat ((us.getD a8 0).toNat ^^^ o8)) (by omega)
                          rw [show bv (UInt8.ofNat ((us.getD a8 0).toNat ^^^ o8)) = .int .u8 (((us.getD a8 0).toNat ^^^ o8 : Nat) : Int) from by show Value.int .u8 _ = _; rw [bit_ofNat (by omega)]] at hs1
                          generalize UInt8.ofNat ((us.getD a8 0).toNat ^^^ o8) = yb at hs1 hfl
                          generalize (us.getD a8 0).toNat ^^^ o8 = y8 at q5 hs1
                          generalize (us.getD a8 0).toNat = x8 at d1 q5 hx8
                          have hnew : leV (us.set a8 yb) = leV ps ^^^ bst k3 a Bu (k4 + 1) := by rw [hfl, hf1, Nat.xor_assoc]
                          have Hs1 := Lib.hid hs1
                          have Hnew := Lib.hid hnew
                          have Hf2 := Lib.hid hf2
                          have q6 : (a8 : Int) < (ps.length : Int) := by omega
                          have q7 : (k3 : Int) ≠ 0 := by omega
                          clear hs1 hnew hf1 hf2 hfl hsame hst hc hown hyl hV hch hus s2
                          go_wp2
                          go_roundw
                          case rel => exact ⟨k4 + 1, by omega, by go_num, ⟨true, rfl, fun _ => Hf2.out⟩, ⟨_, by rw [List.length_set]; exact hus'.out, Hs1.out, Hnew.out⟩, hb6.setCell hg _⟩
                          case measure => simp [intOf]; omega
                        · have hsm2 := hsame hin
                          have hnew : leV us = leV ps ^^^ bst k3 a Bu (k4 + 1) := by rw [hV, hsm2]
                          have hchn : ch = true → bst k3 a Bu (k4 + 1) ≠ 0 := by rw [hsm2]; exact hch
                          have Hnew := Lib.hid hnew
                          have Hchn := Lib.hid hchn
                          have Hown := Lib.hid hown
                          have q7 : (k3 : Int) ≠ 0 := by omega
                          clear hnew hchn hsm2 hsame hflip hV hch hus hown
                          by_cases hlt5 : m4 < k3
                          · obtain rfl : bt = 0 := by
                              by_cases h1 : bt = 1
                              · exact absurd ⟨hlt5, h1⟩ hin
                              · omega
                            have s2' : bits .and .u16 ((Bu : Int) / 2 ^ k4) 1 = 0 := s2
                            clear hin s2
                            go_wp2
                            go_roundw
                            case rel => exact ⟨k4 + 1, by omega, by go_num, ⟨ch, rfl, Hchn.out⟩, ⟨us, hus'.out, Hown.out, Hnew.out⟩, hb6⟩
                            case measure => simp [intOf]; omega
                          · have s3 : ¬ (m4 : Int) < (k3 : Int) := by omega
                            clear hin
                            go_wp2
                            go_roundw
                            case rel => exact ⟨k4 + 1, by omega, by go_num, ⟨ch, rfl, Hchn.out⟩, ⟨us, hus'.out, Hown.out, Hnew.out⟩, hb6⟩
                            case measure => simp [intOf]; omega
                      · have hk49 : k4 = 16 := by omega
                        subst hk49
                        have ru : Rd wr wr.heap.size A6 c6 us := Rd.of_own_at hown
                        have hLr := hL.below (hb0.trans (hbW6.mono (Nat.le_of_lt hs0)))
                        have hbwr := hb0.trans (hbW6.mono (Nat.le_of_lt hs0))
                        rcases ch with _ | _
                        · obtain ⟨J2, Er2, hJ2⟩ : ∃ (J : List UInt8) (Er : Int), (chkL (frontL us) = lastL us ∧ J = frontL us ∧ Er = 0) ∨ (chkL (frontL us) ≠ lastL us ∧ J = [] ∧ Er = 10) := by
                            by_cases hh : chkL (frontL us) = lastL us
                            · exact ⟨_, _, .inl ⟨hh, rfl, rfl⟩⟩
                            · exact ⟨_, _, .inr ⟨hh, rfl, rfl⟩⟩
                          have KC2 := check_core wr hLr A6 c6 us ru (by omega) (by omega) J2 Er2 hJ2
                          rw [hus] at KC2
                          have HKC2 := Lib.hid KC2
                          clear KC2 hJ2 hV hch hown hus e60 e61 d4 p1
                          go_wp2_with fail
                          refine HKC2.out.mono ?_
                          rintro e w7 ⟨v7, rfl, _, b7⟩
                          have hbw7 := hbwr.trans (b7.mono hbwr.size)
                          go_wp2_with fail
                          refine (lives_any _ (hL.below hbw7)).mono ?_
                          rintro e w8 ⟨rfl, b8⟩
                          go_wp2
                          go_ret
                          exact ⟨rfl, hbw7.trans (b8.mono hbw7.size)⟩
                        · have hne : chkL (frontL us) ≠ lastL us := by
                            refine long_err Hok.out hp2 hus ?_
                            rw [hV, ← Nat.xor_assoc, Nat.xor_self, Nat.zero_xor, ← Hn8.out]
                            exact bst_err hal2 (hch rfl)
                          have KC2 := check_sum wr hLr A6 c6 us ru (by omega) (by omega) hne
                          rw [hus] at KC2
                          have HKC2 := Lib.hid KC2
                          clear KC2 hne hV hch hown hus e60 e61 d4 p1
                          go_wp2_with fail
                          refine HKC2.out.mono ?_
                          rintro e w7 ⟨v7, rfl, _, b7⟩
                          have hbw7 := hbwr.trans (b7.mono hbwr.size)
                          go_wp2_with fail
                          refine (lives_any _ (hL.below hbw7)).mono ?_
                          rintro e w8 ⟨rfl, b8⟩
                          go_wp2
                          go_ret
                          exact ⟨rfl, hbw7.trans (b8.mono hbw7.size)⟩
              · have g6 : (C : Int) = 2 := by omega
                clear g2
                by_cases hn0 : ns.length = 0
                · have g7 : (ns.length : Int) = 0 := by omega
                  have g8 : ((ns.length : Int) == 0) = true := by rw [g7]; rfl
                  go_wp2_with fail
                  refine (lives_any _ hLw5).mono ?_
                  rintro e w6 ⟨rfl, b6⟩
                  go_wp2
                  go_ret
                  exact ⟨rfl, hbw5.trans (b6.mono hbw5.size)⟩
                · have g7 : ¬ (ns.length : Int) = 0 := by omega
                  have g8 : ((ns.length : Int) == 0) = false := by rw [beq_eq_false_iff_ne]; exact g7
                  by_cases hB0 : Bu = 0
                  · have g9 : (Bu : Int) = 0 := by omega
                    have g10 : ((Bu : Int) == 0) = true := by rw [g9]; rfl
                    go_wp2_with fail
                    refine (lives_any _ hLw5).mono ?_
                    rintro e w6 ⟨rfl, b6⟩
                    go_wp2
                    go_ret
                    exact ⟨rfl, hbw5.trans (b6.mono hbw5.size)⟩
                  · have g9 : ¬ (Bu : Int) = 0 := by omega
                    have g10 : ((Bu : Int) == 0) = false := by rw [beq_eq_false_iff_ne]; exact g9
                    have hq5 := own_built w5 5 [] (by simp)
                    have r25q := r25.alloc hbP5.size (.cells (([] : List UInt8).map bv).toArray 5)
                    go_wp2_with (at_builtin; refine wpl_appendN Tryd.underlying33 Tryd.info5 rfl (.tmp 135) (.tmp 136) rfl w5.heap.size _ [] rfl hq5 w2.heap.size c2 A2 ps r25q rfl (by simp; omega) (by simp) ?_; intro v6 w6 own6 b6; rw [List.nil_append] at own6; obtain ⟨A6, c6, rfl, _⟩ := Rd.of_own own6; have Hown6 := Lib.hid own6; clear own6)
                    have own6 := Hown6.out
                    have hn0' : 0 < k3 := by have := Hn8.out; omega
                    obtain ⟨b4, o4, rfl, hbB4, hc4⟩ := hA'.cells (by omega)
                    have hc40 := hc4 0 (by omega)
                    have hlt16 := hA'.lt 0
                    generalize ns.getD 0 0 = num at hc40 hlt16
                    have hHc40 := Lib.hid hc40
                    have p1 : (num : Int) % (k3 : Int) = ((num % k3 : Nat) : Int) := by simp only [Int.natCast_emod]
                    have hal2 := Nat.mod_lt num hn0'
                    generalize num % k3 = a at p1 hal2
                    have P1 := Lib.hid p1
                    clear p1 hc4 hc40 r25q hq5
                    go_loopw [17, 18, 19] (fun chv i _ wr => ∃ k : Nat, k ≤ 16 ∧ i = .int .i64 k ∧ (∃ ch : Bool, chv = .bool ch ∧ (ch = true → bst k3 a Bu k ≠ 0)) ∧ (∃ us : List UInt8, us.length = ps.length ∧ wr.ownsRow w5.heap.size 5 1 (.slice A6 ps.length c6) us.length (us.map bv) ∧ leV us = leV ps ^^^ bst k3 a Bu k) ∧ Below w5.heap.size w5 wr) (fun _ i _ _ => 16 - (intOf i).toNat)
                    case atStart => exact ⟨0, by omega, rfl, ⟨false, rfl, fun h => by cases h⟩, ⟨ps, rfl, own6, by rw [bst_zero, Nat.xor_zero]⟩, ((Below.refl w5.heap.size w5).alloc (Nat.le_refl _) _).trans b6⟩
                    case round =>
                      obtain ⟨k4, hk4, rfl, ⟨ch, rfl, hch⟩, ⟨us, hus, hown, hV⟩, hb6⟩ := hrel
                      have hbW6 := hbW5.trans (hb6.mono hbW5.size)
                      have e60 : wr.cell? ⟨w.heap.size, 0, none⟩ = some (.slice (some ⟨b4, o4, none⟩) ns.length cc) := (hbW6.cell (p := ⟨w.heap.size, 0, none⟩) hs0).trans HE0.out
                      have e61 : wr.cell? ⟨w.heap.size, 1, none⟩ = some (.int .u16 (Bu : Int)) := (hbW6.cell (p := ⟨w.heap.size, 1, none⟩) hs0).trans HE1.out
                      have d4 : wr.cell? ⟨b4, o4, none⟩ = some (.int .u16 (num : Int)) := (hbW6.cell (p := ⟨b4, o4, none⟩) (show b4 < W0.heap.size by omega)).trans hHc40.out
                      have p1 := P1.out
                      have hus' := Lib.hid hus
                      have hV' := Lib.hid hV
                      have hch' := Lib.hid hch
                      by_cases hlt4 : k4 < 16
                      · have s1 : (a : Int) + (k4 : Int) = ((a + k4 : Nat) : Int) := by push_cast; rfl
                        have s2 : bits .and .u16 ((Bu : Int) / 2 ^ k4) 1 = ((Bu / 2 ^ k4 % 2 : Nat) : Int) := by
                          have hd : Bu / 2 ^ k4 < 2 ^ 16 := Nat.lt_of_le_of_lt (Nat.div_le_self _ _) (by omega)
                          have := band16 (a := Bu / 2 ^ k4) (b := 1) hd (by omega)
                          rw [and_one'] at this
                          rw [show (Bu : Int) / 2 ^ k4 = ((Bu / 2 ^ k4 : Nat) : Int) from by simp only [Int.natCast_ediv, Int.natCast_pow]; rfl]
                          exact this
                        have hbt : Bu / 2 ^ k4 % 2 < 2 := Nat.mod_lt _ (by omega)
                        have hsum : a + k4 < 8224 := by omega
                        have hsame := bst_same (n := k3) (a := a) (B := Bu) (k := k4)
                        have hflip := bst_flip (n := k3) (a := a) (B := Bu) (k := k4)
                        generalize Bu / 2 ^ k4 % 2 = bt at s2 hbt hsame hflip
                        generalize a + k4 = m4 at s1 hsum hsame hflip
                        by_cases hin : m4 < k3 ∧ bt = 1
                        · obtain ⟨hin1, rfl⟩ := hin
                          obtain ⟨hf1, hf2⟩ := hflip hin1 rfl
                          have s2' : bits .and .u16 ((Bu : Int) / 2 ^ k4) 1 = 1 := s2
                          have s3 : (m4 : Int) < (k3 : Int) := by omega
                          have q2 : (m4 : Int) / 8 = ((m4 / 8 : Nat) : Int) := by omega
                          have q3 : (m4 : Int) % 8 = ((m4 % 8 : Nat) : Int) := by omega
                          have ha8 : m4 / 8 < ps.length := by have := Hn8.out; omega
                          have hr8 : m4 % 8 < 8 := Nat.mod_lt _ (by omega)
                          have hfl := leV_flip (xs := us) (at' := m4) (by omega)
                          rw [hV] at hfl
                          generalize m4 / 8 = a8 at q2 ha8 hfl
                          generalize m4 % 8 = r8 at q3 hr8 hfl
                          have q4 : (2 : Int) ^ r8 = ((2 ^ r8 : Nat) : Int) := by simp only [Int.natCast_pow]; rfl
                          have ho8l : 2 ^ r8 ≤ 128 := by have := Nat.pow_le_pow_right (n := 2) (by omega) (show r8 ≤ 7 by omega); omega
                          generalize 2 ^ r8 = o8 at q4 ho8l hfl
                          obtain ⟨g, cg, e, hg, hf, hc, hst⟩ := own_store hown (by omega)
                          injection e with eA eN eC
                          subst eA
                          have d1 : wr.cell? ⟨g, a8, none⟩ = some (.int .u8 ((us.getD a8 0).toNat : Int)) := hc a8 (by omega)
                          have f1 := hf a8
                          have hx8 : (us.getD a8 0).toNat < 256 := UInt8.toNat_lt _
                          have q5 := bxor8 (a := (us.getD a8 0).toNat) (b := o8) hx8 (by omega)
                          have hyl : (us.getD a8 0).toNat ^^^ o8 < 2 ^ 8 := Nat.xor_lt_two_pow (by omega) (by omega)
                          have hs1 := hst a8 (UInt8.ofNat ((us.getD a8 0).toNat ^^^ o8)) (by omega)
                          rw [show bv (UInt8.ofNat ((us.getD a8 0).toNat ^^^ o8)) = .int .u8 (((us.getD a8 0).toNat ^^^ o8 : Nat) : Int) from by show Value.int .u8 _ = _; rw [bit_ofNat (by omega)]] at hs1
                          generalize UInt8.ofNat ((us.getD a8 0).toNat ^^^ o8) = yb at hs1 hfl
                          generalize (us.getD a8 0).toNat ^^^ o8 = y8 at q5 hs1
                          generalize (us.getD a8 0).toNat = x8 at d1 q5 hx8
                          have hnew : leV (us.set a8 yb) = leV ps ^^^ bst k3 a Bu (k4 + 1) := by rw [hfl, hf1, Nat.xor_assoc]
                          have Hs1 := Lib.hid hs1
                          have Hnew := Lib.hid hnew
                          have Hf2 := Lib.hid hf2
                          have q6 : (a8 : Int) < (ps.length : Int) := by omega
                          have q7 : (k3 : Int) ≠ 0 := by omega
                          clear hs1 hnew hf1 hf2 hfl hsame hst hc hown hyl hV hch hus s2
                          go_wp2
                          go_roundw
                          case rel => exact ⟨k4 + 1, by omega, by go_num, ⟨true, rfl, fun _ => Hf2.out⟩, ⟨_, by rw [List.length_set]; exact hus'.out, Hs1.out, Hnew.out⟩, hb6.setCell hg _⟩
                          case measure => simp [intOf]; omega
                        · have hsm2 := hsame hin
                          have hnew : leV us = leV ps ^^^ bst k3 a Bu (k4 + 1) := by rw [hV, hsm2]
                          have hchn : ch = true → bst k3 a Bu (k4 + 1) ≠ 0 := by rw [hsm2]; exact hch
                          have Hnew := Lib.hid hnew
                          have Hchn := Lib.hid hchn
                          have Hown := Lib.hid hown
                          have q7 : (k3 : Int) ≠ 0 := by omega
                          clear hnew hchn hsm2 hsame hflip hV hch hus hown
                          by_cases hlt5 : m4 < k3
                          · obtain rfl : bt = 0 := by
                              by_cases h1 : bt = 1
                              · exact absurd ⟨hlt5, h1⟩ hin
                              · omega
                            have s2' : bits .and .u16 ((Bu : Int) / 2 ^ k4) 1 = 0 := s2
                            clear hin s2
                            go_wp2
                            go_roundw
                            case rel => exact ⟨k4 + 1, by omega, by go_num, ⟨ch, rfl, Hchn.out⟩, ⟨us, hus'.out, Hown.out, Hnew.out⟩, hb6⟩
                            case measure => simp [intOf]; omega
                          · have s3 : ¬ (m4 : Int) < (k3 : Int) := by omega
                            clear hin
                            go_wp2
                            go_roundw
                            case rel => exact ⟨k4 + 1, by omega, by go_num, ⟨ch, rfl, Hchn.out⟩, ⟨us, hus'.out, Hown.out, Hnew.out⟩, hb6⟩
                            case measure => simp [intOf]; omega
                      · have hk49 : k4 = 16 := by omega
                        subst hk49
                        have ru : Rd wr wr.heap.size A6 c6 us := Rd.of_own_at hown
                        have hLr := hL.below (hb0.trans (hbW6.mono (Nat.le_of_lt hs0)))
                        have hbwr := hb0.trans (hbW6.mono (Nat.le_of_lt hs0))
                        rcases ch with _ | _
                        · obtain ⟨J2, Er2, hJ2⟩ : ∃ (J : List UInt8) (Er : Int), (chkL (frontL us) = lastL us ∧ J = frontL us ∧ Er = 0) ∨ (chkL (frontL us) ≠ lastL us ∧ J = [] ∧ Er = 10) := by
                            by_cases hh : chkL (frontL us) = lastL us
                            · exact ⟨_, _, .inl ⟨hh, rfl, rfl⟩⟩
                            · exact ⟨_, _, .inr ⟨hh, rfl, rfl⟩⟩
                          have KC2 := check_core wr hLr A6 c6 us ru (by omega) (by omega) J2 Er2 hJ2
                          rw [hus] at KC2
                          have HKC2 := Lib.hid KC2
                          clear KC2 hJ2 hV hch hown hus e60 e61 d4 p1
                          go_wp2_with fail
                          refine HKC2.out.mono ?_
                          rintro e w7 ⟨v7, rfl, _, b7⟩
                          have hbw7 := hbwr.trans (b7.mono hbwr.size)
                          go_wp2_with fail
                          refine (lives_any _ (hL.below hbw7)).mono ?_
                          rintro e w8 ⟨rfl, b8⟩
                          go_wp2
                          go_ret
                          exact ⟨rfl, hbw7.trans (b8.mono hbw7.size)⟩
                        · have hne : chkL (frontL us) ≠ lastL us := by
                            refine long_err Hok.out hp2 hus ?_
                            rw [hV, ← Nat.xor_assoc, Nat.xor_self, Nat.zero_xor, ← Hn8.out]
                            exact bst_err hal2 (hch rfl)
                          have KC2 := check_sum wr hLr A6 c6 us ru (by omega) (by omega) hne
                          rw [hus] at KC2
                          have HKC2 := Lib.hid KC2
                          clear KC2 hne hV hch hown hus e60 e61 d4 p1
                          go_wp2_with fail
                          refine HKC2.out.mono ?_
                          rintro e w7 ⟨v7, rfl, _, b7⟩
                          have hbw7 := hbwr.trans (b7.mono hbwr.size)
                          go_wp2_with fail
                          refine (lives_any _ (hL.below hbw7)).mono ?_
                          rintro e w8 ⟨rfl, b8⟩
                          go_wp2
                          go_ret
                          exact ⟨rfl, hbw7.trans (b8.mono hbw7.size)⟩

end Go.Proofs.YtfpfadenfoehfaaDoor
