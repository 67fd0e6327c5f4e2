/-
  Helper text: the loop that builds the line of LevelsLine; no statement is proved here.
-/
import Derived.Test.YtbeghnpdmcmdmaaDoorLineA
import Derived.Test.YtbeghnpdmcmdmaaDoorLineB
import Derived.Test.YtbeghnpdmcmdmaaDoorLineF
import Derived.Test.YtbeghnpdmcmdmaaDoorLawSend
namespace Go.Proofs.YtbeghnpdmcmdmaaDoor
open Go Go.RowKit

/-- The argument of LevelsLine, boxed in block B, and what it reads as. -/
structure Box (w0 : World) (B : Nat) (AP : Option Addr) (cP : Nat) (ps : List (List UInt8)) (AI : Option Addr) (cI : Nat) (zs : List UInt8) (m n : Nat) (t : UInt8) : Prop where
  lt : B < w0.heap.size
  f0 : w0.cell? ⟨B, 0, none⟩ = some (.slice AP ps.length cP)
  f1 : w0.cell? ⟨B, 1, none⟩ = some (.slice AI zs.length cI)
  f2 : w0.cell? ⟨B, 2, none⟩ = some (.int .u16 (m : Int))
  f3 : w0.cell? ⟨B, 3, none⟩ = some (.int .u16 (n : Int))
  f4 : w0.cell? ⟨B, 4, none⟩ = some (bv t)
  p : Rds w0 w0.heap.size AP cP ps
  i : Rd w0 w0.heap.size AI cI zs

/-- Where the chosen packet stands. -/
def At (bs : List (Nat × List UInt8)) (wh fr nn : Nat) : Prop :=
  bs ≠ [] → ∃ fs j q rs, bs = fs ++ (j, q) :: rs ∧ wh = fs.length ∧ fr = (lineL fs).length + j ∧ nn = (sendL q).length

theorem box_new (w : World) (T : TypeId) (AP AI : Option Addr) (cP cI : Nat) (ps : List (List UInt8)) (zs : List UInt8) (hP : Rds w w.heap.size AP cP ps) (hI : Rd w w.heap.size AI cI zs) (m n : Nat) (t : UInt8) :
    Box (w.alloc (.cells #[.slice AP ps.length cP, .slice AI zs.length cI, .int .u16 (m : Int), .int .u16 (n : Int), bv t] T)) w.heap.size AP cP ps AI cI zs m n t := by
  have hb := (Below.refl w.heap.size w).alloc (Nat.le_refl _) (.cells #[.slice AP ps.length cP, .slice AI zs.length cI, .int .u16 (m : Int), .int .u16 (n : Int), bv t] T)
  have hc := fun i => cell_of_row _ _ i _ _ (0, 0) (heap_alloc_new w (.cells #[.slice AP ps.length cP, .slice AI zs.length cI, .int .u16 (m : Int), .int .u16 (n : Int), bv t] T))
  exact ⟨by simp, hc 0, hc 1, hc 2, hc 3, hc 4, (hP.below hb).more hb.size, hI.belowTop hb⟩
theorem Box.to {w0 w' : World} {B : Nat} {AP : Option Addr} {cP : Nat} {ps : List (List UInt8)} {AI : Option Addr} {cI : Nat} {zs : List UInt8} {m n : Nat} {t : UInt8} (h : Box w0 B AP cP ps AI cI zs m n t) (hb : Below w0.heap.size w0 w') : Box w' B AP cP ps AI cI zs m n t :=
  ⟨Nat.lt_of_lt_of_le h.lt hb.size, (hb.cell h.lt).trans h.f0, (hb.cell h.lt).trans h.f1, (hb.cell h.lt).trans h.f2, (hb.cell h.lt).trans h.f3, (hb.cell h.lt).trans h.f4, (h.p.below hb).more hb.size, h.i.belowTop hb⟩
theorem At.skip {wh fr nn : Nat} : At [] wh fr nn := fun h => absurd rfl h
theorem At.new {bs : List (Nat × List UInt8)} {j wh fr nn : Nat} {q : List UInt8} (h1 : wh = bs.length) (h2 : fr = (lineL bs).length + j) (h3 : nn = (sendL q).length) : At (bs ++ [(j, q)]) wh fr nn := fun _ => ⟨bs, j, q, [], rfl, h1, h2, h3⟩
theorem Ln.snoc {w0 w : World} {vl va : Value} {bs : List (Nat × List UInt8)} {j : Nat} {q : List UInt8} (h : Ln w0 w vl va (lineL bs ++ List.replicate j 0 ++ sendL q) (packL bs ++ [q])) : Ln w0 w vl va (lineL (bs ++ [(j, q)])) (packL (bs ++ [(j, q)])) := by
  rw [lineL_snoc]
  simpa using h
theorem At.old {bs : List (Nat × List UInt8)} {wh fr nn : Nat} (h : At bs wh fr nn) (hne : bs ≠ []) (b : Nat × List UInt8) : At (bs ++ [b]) wh fr nn := fun _ => by
  obtain ⟨fs, j, q, rs, rfl, h1, h2, h3⟩ := h hne
  exact ⟨fs, j, q, rs ++ [b], by simp, h1, h2, h3⟩
theorem okB_snoc {bs : List (Nat × List UInt8)} (h : okB bs) {j : Nat} {q : List UInt8} (hj : j ≤ 255) (h0 : 0 < q.length) (h1 : q.length ≤ 60) : okB (bs ++ [(j, q)]) := fun b hb => by
  rcases List.mem_append.1 hb with hb | hb
  · exact h b hb
  · obtain rfl := List.mem_singleton.1 hb
    exact ⟨hj, h0, h1⟩

set_option maxHeartbeats 3200000 in
set_option maxRecDepth 100000 in
theorem lawLine_in (w : World) (hL : Laid w) (AP AI : Option Addr) (cP cI : Nat) (ps : List (List UInt8)) (zs : List UInt8) (hP : Rds w w.heap.size AP cP ps) (hI : Rd w w.heap.size AI cI zs) (hp8 : ps.length ≤ 8) (m n : Nat) (hm : m < 65536) (hn : n < 65536) (t : UInt8) :
    Calls Tryd.prog 9 #[.agg #[.slice AP ps.length cP, .slice AI zs.length cI, .int .u16 (m : Int), .int .u16 (n : Int), bv t]] w (ResB w true) := by
  have t1 : ¬ (8 : Int) < (ps.length : Int) := by omega
  have hbox := box_new w 47 AP AI cP cI ps zs hP hI m n t
  have hb0 := (Below.refl w.heap.size w).alloc (Nat.le_refl _) (.cells #[.slice AP ps.length cP, .slice AI zs.length cI, .int .u16 (m : Int), .int .u16 (n : Int), bv t] 47)
  go_enter Tryd.func9, Tryd.ntmps9
  go_wp2
  generalize w.alloc (.cells #[.slice AP ps.length cP, .slice AI zs.length cI, .int .u16 (m : Int), .int .u16 (n : Int), bv t] 47) = w0 at hbox hb0 ⊢
  clear hP hI
  go_loopg [3, 4, 5, 6, 7, 8] ps.length (fun g vl va wh fr nn i wi => ∃ (k : Nat) (bs : List (Nat × List UInt8)) (whn frn nnn : Nat), k + g = ps.length ∧ okB bs ∧ bs.length ≤ k ∧ i = .int .i64 k ∧ wh = .int .i64 whn ∧ fr = .int .i64 frn ∧ nn = .int .i64 nnn ∧ At bs whn frn nnn ∧ Ln w0 wi vl va (lineL bs) (packL bs))
  case atStart => exact ⟨0, [], 0, 0, 0, by omega, fun _ h => absurd h (by simp), by simp, rfl, rfl, rfl, rfl, At.skip, Ln.nil w0⟩
  case round =>
    obtain ⟨k, bs, whn, frn, nnn, hkg, hok, hbk, rfl, rfl, rfl, rfl, hat, hln⟩ := hrel
    have hx := hbox.to hln.below
    have f0 := hx.f0
    have f1 := hx.f1
    have f2 := hx.f2
    have hll := line_len bs hok
    have hpl : (packL bs).length = bs.length := List.length_map _
    obtain ⟨pp, Epp⟩ : ∃ pp, packL bs = pp := ⟨_, rfl⟩
    obtain ⟨ll, Ell⟩ : ∃ ll, lineL bs = ll := ⟨_, rfl⟩
    rw [Epp] at hln hpl
    rw [Ell] at hln hll
    replace Epp := Lib.hid Epp
    replace hpl := Lib.hid hpl
    replace Ell := Lib.hid Ell
    obtain ⟨Aa, ca, rfl, _⟩ := hln.packs.rds hln.below
    obtain ⟨Al, cl, rfl, _⟩ := Rd.of_own hln.line
    by_cases hk : k < ps.length
    · obtain ⟨b, off, A', c', rfl, hB, hc0, hr0⟩ := hbox.p.at_ hk
      have hc := (hln.below.cell hB).trans hc0
      generalize ps.getD k [] = q at hc hc0 hr0
      have Hat := Lib.hid hat
      have Hok := Lib.hid hok
      clear hat hok
      by_cases hq0 : q.length = 0
      · have tq : ((q.length : Int) == 0) = true := by rw [beq_iff_eq]; omega
        go_wp2
        go_roundg (gk - 1)
        case measure => omega
        case rel => exact ⟨k + 1, bs, whn, frn, nnn, by omega, Hok.out, by omega, by go_num, rfl, rfl, rfl, Hat.out, by rw [Epp.out, Ell.out]; exact hln⟩
      · have tq : ((q.length : Int) == 0) = false := by rw [beq_eq_false_iff_ne]; omega
        by_cases hq1 : 60 < q.length
        · have tq1 : (60 : Int) < (q.length : Int) := by omega
          go_wp2
          go_roundg (gk - 1)
          case measure => omega
          case rel => exact ⟨k + 1, bs, whn, frn, nnn, by omega, Hok.out, by omega, by go_num, rfl, rfl, rfl, Hat.out, by rw [Epp.out, Ell.out]; exact hln⟩
        · have tq1 : ¬ (60 : Int) < (q.length : Int) := by omega
          have hsl := sendL_len q
          obtain ⟨sq, E2⟩ : ∃ sq, sendL q = sq := ⟨_, rfl⟩
          have ks := fun (W : World) (h : Rd W W.heap.size A' c' q) => refSend_own W A' c' q h (by omega)
          rw [E2] at hsl ks
          have KS := Lib.hid ks
          replace E2 := Lib.hid E2
          clear ks
          have hgo : ∃ j : Nat, j ≤ 255 ∧ ((k < zs.length ∧ (zs.getD k 0).toNat = j) ∨ (¬ k < zs.length ∧ j = 0)) := by
            by_cases hkz : k < zs.length
            · exact ⟨_, by have := (zs.getD k 0).toNat_lt; omega, .inl ⟨hkz, rfl⟩⟩
            · exact ⟨0, by omega, .inr ⟨hkz, rfl⟩⟩
          obtain ⟨j, hj, hgo⟩ := hgo
          rcases hgo with ⟨hkz, hzj⟩ | ⟨hkz, hj0⟩
          · obtain ⟨b2, off2, rfl, hB2, hcz0⟩ := hbox.i.at_ hkz
            have hcz := (hln.below.cell hB2).trans hcz0
            have tz : (k : Int) < (zs.length : Int) := by omega
            clear hcz0
            generalize zs.getD k 0 = z at hcz hzj
            have twz : IntKind.i64.wrap (z.toNat : Int) = (z.toNat : Int) := IntWalk.i64_in _ (by omega)
            have Hzj := Lib.hid hzj
            clear hzj
            obtain ⟨l1, E1⟩ : ∃ l1, ll ++ List.replicate j 0 = l1 := ⟨_, rfl⟩
            have e1l : l1.length ≤ ll.length + j := by rw [← E1]; simp
            have e1m : ll.length + j ≤ l1.length := by rw [← E1]; simp
            replace E1 := Lib.hid E1
            by_cases h3 : bs = []
            · obtain rfl : pp = [] := by rw [← Epp.out, h3]; rfl
              clear h3
              go_wp2_with (at_builtin; refine wpl_lnZeros Tryd.underlying22 Tryd.underlying3 Tryd.info5 rfl (.tmp 44) (.tmp 50) rfl _ _ _ _ rfl hln z.toNat (by first | rfl | (show Value.int .i64 (IntKind.i64.wrap _) = _; rw [twz])) (by have := Hzj.out; omega) ?_; intro v1 w1 hln1; rw [Hzj.out, E1.out] at hln1; obtain ⟨Al1, cl1, rfl, _⟩ := Rd.of_own hln1.line; have g0 := (hbox.to hln1.below).f0; have g2 := (hbox.to hln1.below).f2; have gc := (hln1.below.cell hB).trans hc0)
              go_wp2_with fail
              refine (KS.out _ ((hr0.below hln1.below).more hln1.below.size)).mono ?_
              rintro e w2 ⟨v2, rfl, ho2, b2⟩
              obtain ⟨A2, d2, rfl, _⟩ := Rd.of_own ho2
              have hln2 := hln1.to b2
              have g0 := (hbox.to hln2.below).f0
              have g2 := (hbox.to hln2.below).f2
              have gc := (hln2.below.cell hB).trans hc0
              clear ho2
              go_wp2_with fail
              refine (KS.out _ ((hr0.below hln2.below).more hln2.below.size)).mono ?_
              rintro e w3 ⟨v3, rfl, ho3, b3⟩
              obtain ⟨A3, d3, rfl, r3⟩ := Rd.of_own ho3
              have hln3 := hln2.to b3
              have g0 := (hbox.to hln3.below).f0
              have g2 := (hbox.to hln3.below).f2
              have gc := (hln3.below.cell hB).trans hc0
              clear ho3
              go_wp2_with (at_builtin; first | (refine wpl_lnAppend Tryd.underlying22 Tryd.info5 rfl (.tmp 74) (.tmp 80) rfl _ _ _ _ rfl hln3 A3 d3 sq r3 rfl (by omega) ?_; intro v4 w4 hln4; obtain ⟨Al4, cl4, rfl, _⟩ := Rd.of_own hln4.line; have g0 := (hbox.to hln4.below).f0; have g2 := (hbox.to hln4.below).f2; have gc := (hln4.below.cell hB).trans hc0) | (refine wpl_lnPack Tryd.underlying45 Tryd.info22 rfl (.tmp 82) (.tmp 88) rfl _ _ _ _ rfl hln4 A' c' q hr0 rfl (by first | (have := hpl.out; omega) | simp) ?_; intro v5 w5 hln5))
              go_roundg (gk - 1)
              case measure => omega
              case rel => exact ⟨k + 1, bs ++ [(j, q)], _, _, _, by omega, okB_snoc Hok.out hj (by omega) (by omega), by simp; omega, by go_num, rfl, rfl, rfl, At.new (by first | exact hpl.out | (have := hpl.out; omega)) (by rw [Ell.out]; omega) (by rw [E2.out]), Ln.snoc (by rw [Epp.out, Ell.out, E2.out, E1.out]; first | exact hln5 | (have hh := hln5; simp only [List.length_append] at hh; exact hh))⟩
            · have te : ((pp.length : Int) == 0) = false := by rw [beq_eq_false_iff_ne]; have := hpl.out; have := List.length_pos_iff.2 h3; omega
              have H3 := Lib.hid h3
              clear h3
              by_cases h4 : m % 8 = k
              · have tm : ((m : Int) % 8 == (k : Int)) = true := by rw [beq_iff_eq]; omega
                clear h4
                go_wp2_with (at_builtin; refine wpl_lnZeros Tryd.underlying22 Tryd.underlying3 Tryd.info5 rfl (.tmp 44) (.tmp 50) rfl _ _ _ _ rfl hln z.toNat (by first | rfl | (show Value.int .i64 (IntKind.i64.wrap _) = _; rw [twz])) (by have := Hzj.out; omega) ?_; intro v1 w1 hln1; rw [Hzj.out, E1.out] at hln1; obtain ⟨Al1, cl1, rfl, _⟩ := Rd.of_own hln1.line; have g0 := (hbox.to hln1.below).f0; have g2 := (hbox.to hln1.below).f2; have gc := (hln1.below.cell hB).trans hc0)
                go_wp2_with fail
                refine (KS.out _ ((hr0.below hln1.below).more hln1.below.size)).mono ?_
                rintro e w2 ⟨v2, rfl, ho2, b2⟩
                obtain ⟨A2, d2, rfl, _⟩ := Rd.of_own ho2
                have hln2 := hln1.to b2
                have g0 := (hbox.to hln2.below).f0
                have g2 := (hbox.to hln2.below).f2
                have gc := (hln2.below.cell hB).trans hc0
                clear ho2
                go_wp2_with fail
                refine (KS.out _ ((hr0.below hln2.below).more hln2.below.size)).mono ?_
                rintro e w3 ⟨v3, rfl, ho3, b3⟩
                obtain ⟨A3, d3, rfl, r3⟩ := Rd.of_own ho3
                have hln3 := hln2.to b3
                have g0 := (hbox.to hln3.below).f0
                have g2 := (hbox.to hln3.below).f2
                have gc := (hln3.below.cell hB).trans hc0
                clear ho3
                go_wp2_with (at_builtin; first | (refine wpl_lnAppend Tryd.underlying22 Tryd.info5 rfl (.tmp 74) (.tmp 80) rfl _ _ _ _ rfl hln3 A3 d3 sq r3 rfl (by omega) ?_; intro v4 w4 hln4; obtain ⟨Al4, cl4, rfl, _⟩ := Rd.of_own hln4.line; have g0 := (hbox.to hln4.below).f0; have g2 := (hbox.to hln4.below).f2; have gc := (hln4.below.cell hB).trans hc0) | (refine wpl_lnPack Tryd.underlying45 Tryd.info22 rfl (.tmp 82) (.tmp 88) rfl _ _ _ _ rfl hln4 A' c' q hr0 rfl (by first | (have := hpl.out; omega) | simp) ?_; intro v5 w5 hln5))
                go_roundg (gk - 1)
                case measure => omega
                case rel => exact ⟨k + 1, bs ++ [(j, q)], _, _, _, by omega, okB_snoc Hok.out hj (by omega) (by omega), by simp; omega, by go_num, rfl, rfl, rfl, At.new (by first | exact hpl.out | (have := hpl.out; omega)) (by rw [Ell.out]; omega) (by rw [E2.out]), Ln.snoc (by rw [Epp.out, Ell.out, E2.out, E1.out]; first | exact hln5 | (have hh := hln5; simp only [List.length_append] at hh; exact hh))⟩
              · have tm : ((m : Int) % 8 == (k : Int)) = false := by rw [beq_eq_false_iff_ne]; omega
                clear h4
                go_wp2_with (at_builtin; refine wpl_lnZeros Tryd.underlying22 Tryd.underlying3 Tryd.info5 rfl (.tmp 44) (.tmp 50) rfl _ _ _ _ rfl hln z.toNat (by first | rfl | (show Value.int .i64 (IntKind.i64.wrap _) = _; rw [twz])) (by have := Hzj.out; omega) ?_; intro v1 w1 hln1; rw [Hzj.out, E1.out] at hln1; obtain ⟨Al1, cl1, rfl, _⟩ := Rd.of_own hln1.line; have g0 := (hbox.to hln1.below).f0; have g2 := (hbox.to hln1.below).f2; have gc := (hln1.below.cell hB).trans hc0)
                have hln2 := hln1
                go_wp2_with fail
                refine (KS.out _ ((hr0.below hln2.below).more hln2.below.size)).mono ?_
                rintro e w3 ⟨v3, rfl, ho3, b3⟩
                obtain ⟨A3, d3, rfl, r3⟩ := Rd.of_own ho3
                have hln3 := hln2.to b3
                have g0 := (hbox.to hln3.below).f0
                have g2 := (hbox.to hln3.below).f2
                have gc := (hln3.below.cell hB).trans hc0
                clear ho3
                go_wp2_with (at_builtin; first | (refine wpl_lnAppend Tryd.underlying22 Tryd.info5 rfl (.tmp 74) (.tmp 80) rfl _ _ _ _ rfl hln3 A3 d3 sq r3 rfl (by omega) ?_; intro v4 w4 hln4; obtain ⟨Al4, cl4, rfl, _⟩ := Rd.of_own hln4.line; have g0 := (hbox.to hln4.below).f0; have g2 := (hbox.to hln4.below).f2; have gc := (hln4.below.cell hB).trans hc0) | (refine wpl_lnPack Tryd.underlying45 Tryd.info22 rfl (.tmp 82) (.tmp 88) rfl _ _ _ _ rfl hln4 A' c' q hr0 rfl (by first | (have := hpl.out; omega) | simp) ?_; intro v5 w5 hln5))
                go_roundg (gk - 1)
                case measure => omega
                case rel => exact ⟨k + 1, bs ++ [(j, q)], _, _, _, by omega, okB_snoc Hok.out hj (by omega) (by omega), by simp; omega, by go_num, rfl, rfl, rfl, Hat.out.old H3.out _, Ln.snoc (by rw [Epp.out, Ell.out, E2.out, E1.out]; first | exact hln5 | (have hh := hln5; simp only [List.length_append] at hh; exact hh))⟩
          · have tz : ¬ (k : Int) < (zs.length : Int) := by omega
            replace hj0 := Lib.hid hj0
            obtain ⟨l1, E1⟩ : ∃ l1, ll ++ List.replicate j 0 = l1 := ⟨_, rfl⟩
            have e1l : l1.length ≤ ll.length + j := by rw [← E1]; simp
            have e1m : ll.length + j ≤ l1.length := by rw [← E1]; simp
            replace E1 := Lib.hid E1
            by_cases h3 : bs = []
            · obtain rfl : pp = [] := by rw [← Epp.out, h3]; rfl
              clear h3
              obtain rfl : ll = l1 := by rw [← E1.out, hj0.out]; simp
              have hln1 := hln
              go_wp2_with fail
              refine (KS.out _ ((hr0.below hln1.below).more hln1.below.size)).mono ?_
              rintro e w2 ⟨v2, rfl, ho2, b2⟩
              obtain ⟨A2, d2, rfl, _⟩ := Rd.of_own ho2
              have hln2 := hln1.to b2
              have g0 := (hbox.to hln2.below).f0
              have g2 := (hbox.to hln2.below).f2
              have gc := (hln2.below.cell hB).trans hc0
              clear ho2
              go_wp2_with fail
              refine (KS.out _ ((hr0.below hln2.below).more hln2.below.size)).mono ?_
              rintro e w3 ⟨v3, rfl, ho3, b3⟩
              obtain ⟨A3, d3, rfl, r3⟩ := Rd.of_own ho3
              have hln3 := hln2.to b3
              have g0 := (hbox.to hln3.below).f0
              have g2 := (hbox.to hln3.below).f2
              have gc := (hln3.below.cell hB).trans hc0
              clear ho3
              go_wp2_with (at_builtin; first | (refine wpl_lnAppend Tryd.underlying22 Tryd.info5 rfl (.tmp 74) (.tmp 80) rfl _ _ _ _ rfl hln3 A3 d3 sq r3 rfl (by omega) ?_; intro v4 w4 hln4; obtain ⟨Al4, cl4, rfl, _⟩ := Rd.of_own hln4.line; have g0 := (hbox.to hln4.below).f0; have g2 := (hbox.to hln4.below).f2; have gc := (hln4.below.cell hB).trans hc0) | (refine wpl_lnPack Tryd.underlying45 Tryd.info22 rfl (.tmp 82) (.tmp 88) rfl _ _ _ _ rfl hln4 A' c' q hr0 rfl (by first | (have := hpl.out; omega) | simp) ?_; intro v5 w5 hln5))
              go_roundg (gk - 1)
              case measure => omega
              case rel => exact ⟨k + 1, bs ++ [(j, q)], _, _, _, by omega, okB_snoc Hok.out hj (by omega) (by omega), by simp; omega, by go_num, rfl, rfl, rfl, At.new (by first | exact hpl.out | (have := hpl.out; omega)) (by rw [Ell.out]; omega) (by rw [E2.out]), Ln.snoc (by rw [Epp.out, Ell.out, E2.out, E1.out]; first | exact hln5 | (have hh := hln5; simp only [List.length_append] at hh; exact hh))⟩
            · have te : ((pp.length : Int) == 0) = false := by rw [beq_eq_false_iff_ne]; have := hpl.out; have := List.length_pos_iff.2 h3; omega
              have H3 := Lib.hid h3
              clear h3
              by_cases h4 : m % 8 = k
              · have tm : ((m : Int) % 8 == (k : Int)) = true := by rw [beq_iff_eq]; omega
                clear h4
                obtain rfl : ll = l1 := by rw [← E1.out, hj0.out]; simp
                have hln1 := hln
                go_wp2_with fail
                refine (KS.out _ ((hr0.below hln1.below).more hln1.below.size)).mono ?_
                rintro e w2 ⟨v2, rfl, ho2, b2⟩
                obtain ⟨A2, d2, rfl, _⟩ := Rd.of_own ho2
                have hln2 := hln1.to b2
                have g0 := (hbox.to hln2.below).f0
                have g2 := (hbox.to hln2.below).f2
                have gc := (hln2.below.cell hB).trans hc0
                clear ho2
                go_wp2_with fail
                refine (KS.out _ ((hr0.below hln2.below).more hln2.below.size)).mono ?_
                rintro e w3 ⟨v3, rfl, ho3, b3⟩
                obtain ⟨A3, d3, rfl, r3⟩ := Rd.of_own ho3
                have hln3 := hln2.to b3
                have g0 := (hbox.to hln3.below).f0
                have g2 := (hbox.to hln3.below).f2
                have gc := (hln3.below.cell hB).trans hc0
                clear ho3
                go_wp2_with (at_builtin; first | (refine wpl_lnAppend Tryd.underlying22 Tryd.info5 rfl (.tmp 74) (.tmp 80) rfl _ _ _ _ rfl hln3 A3 d3 sq r3 rfl (by omega) ?_; intro v4 w4 hln4; obtain ⟨Al4, cl4, rfl, _⟩ := Rd.of_own hln4.line; have g0 := (hbox.to hln4.below).f0; have g2 := (hbox.to hln4.below).f2; have gc := (hln4.below.cell hB).trans hc0) | (refine wpl_lnPack Tryd.underlying45 Tryd.info22 rfl (.tmp 82) (.tmp 88) rfl _ _ _ _ rfl hln4 A' c' q hr0 rfl (by first | (have := hpl.out; omega) | simp) ?_; intro v5 w5 hln5))
                go_roundg (gk - 1)
                case measure => omega
                case rel => exact ⟨k + 1, bs ++ [(j, q)], _, _, _, by omega, okB_snoc Hok.out hj (by omega) (by omega), by simp; omega, by go_num, rfl, rfl, rfl, At.new (by first | exact hpl.out | (have := hpl.out; omega)) (by rw [Ell.out]; omega) (by rw [E2.out]), Ln.snoc (by rw [Epp.out, Ell.out, E2.out, E1.out]; first | exact hln5 | (have hh := hln5; simp only [List.length_append] at hh; exact hh))⟩
              · have tm : ((m : Int) % 8 == (k : Int)) = false := by rw [beq_eq_false_iff_ne]; omega
                clear h4
                obtain rfl : ll = l1 := by rw [← E1.out, hj0.out]; simp
                have hln1 := hln
                have hln2 := hln1
                go_wp2_with fail
                refine (KS.out _ ((hr0.below hln2.below).more hln2.below.size)).mono ?_
                rintro e w3 ⟨v3, rfl, ho3, b3⟩
                obtain ⟨A3, d3, rfl, r3⟩ := Rd.of_own ho3
                have hln3 := hln2.to b3
                have g0 := (hbox.to hln3.below).f0
                have g2 := (hbox.to hln3.below).f2
                have gc := (hln3.below.cell hB).trans hc0
                clear ho3
                go_wp2_with (at_builtin; first | (refine wpl_lnAppend Tryd.underlying22 Tryd.info5 rfl (.tmp 74) (.tmp 80) rfl _ _ _ _ rfl hln3 A3 d3 sq r3 rfl (by omega) ?_; intro v4 w4 hln4; obtain ⟨Al4, cl4, rfl, _⟩ := Rd.of_own hln4.line; have g0 := (hbox.to hln4.below).f0; have g2 := (hbox.to hln4.below).f2; have gc := (hln4.below.cell hB).trans hc0) | (refine wpl_lnPack Tryd.underlying45 Tryd.info22 rfl (.tmp 82) (.tmp 88) rfl _ _ _ _ rfl hln4 A' c' q hr0 rfl (by first | (have := hpl.out; omega) | simp) ?_; intro v5 w5 hln5))
                go_roundg (gk - 1)
                case measure => omega
                case rel => exact ⟨k + 1, bs ++ [(j, q)], _, _, _, by omega, okB_snoc Hok.out hj (by omega) (by omega), by simp; omega, by go_num, rfl, rfl, rfl, Hat.out.old H3.out _, Ln.snoc (by rw [Epp.out, Ell.out, E2.out, E1.out]; first | exact hln5 | (have hh := hln5; simp only [List.length_append] at hh; exact hh))⟩
    · have hli := listen_line bs hok
      rw [Ell.out, Epp.out] at hli
      obtain ⟨Al', cl', el, rl⟩ := Rd.of_own hln.line
      injection el with e1 e2 e3
      subst e1; subst e3
      clear e2
      have kl := line_any wr Al cl ll rl (by omega)
      have ks := fun (W : World) (hL : Laid W) (A : Option Addr) (c : Nat) (h : Rd W W.heap.size A c ll) => listen_any W hL A c ll h (by omega)
      rw [hli] at ks
      have KL := Lib.hid kl
      have KS : Hid (∀ (W : World) (_ : Laid W) (A : Option Addr) (c : Nat), Rd W W.heap.size A c ll → Calls Tryd.prog 30 #[.slice A ll.length c] W (ResL W pp 0)) := Lib.hid ks
      have Hat := Lib.hid hat
      have Hok := Lib.hid hok
      clear kl ks hli hat hok rl
      have hpp : pp.length ≤ 8 := by have := hpl.out; omega
      go_wp2_with fail
      refine KL.out.mono ?_
      rintro e w1 ⟨A1, c1, rfl, r1, b1⟩
      have hln1 := hln.to b1
      have hb1 := hb0.trans (hln1.below.mono hb0.size)
      go_wp2_with fail
      refine (KS.out _ (hL.below hb1) _ _ r1).mono ?_
      rintro e w2 ⟨A2, c2, rfl, p2, b2⟩
      have hln2 := hln1.to b2
      obtain ⟨Aa', ca', ea, pa⟩ := hln2.packs.rds hln2.below
      injection ea with e1 e2 e3
      subst e1; subst e3
      clear e2
      have kb := begins_true w2 A2 Aa c2 ca pp [] (by rw [List.append_nil]; exact p2) pa (by rw [List.append_nil]; omega)
      rw [List.append_nil] at kb
      have KB := Lib.hid kb
      have P2 := Lib.hid p2
      have PA := Lib.hid pa
      clear kb p2 pa
      go_wp2_with fail
      refine KB.out.mono ?_
      rintro e w3 ⟨rfl, b3⟩
      have hln3 := hln2.to b3
      have hb3 := hb0.trans (hln3.below.mono hb0.size)
      have hx3 := hbox.to hln3.below
      have g3 : w3.drew.cell? _ = _ := hx3.f3
      have g4 : w3.drew.cell? _ = _ := hx3.f4
      by_cases h3 : bs = []
      · obtain rfl : pp = [] := by rw [← Epp.out, h3]; rfl
        have T := Lib.hid (law_tail hL hb3.drew)
        go_wp2_with fail
        go_region
        go_wp2_with fail
        refine T.out.mono ?_
        rintro e w4 ⟨rfl, b4⟩
        go_wp2
        go_ret
        exact ⟨rfl, hb3.drew.trans (b4.mono hb3.drew.size)⟩
      · obtain ⟨fs, j, q, rs, hbs, rfl, hfr, hnn⟩ := Hat.out h3
        have hql := sendL_len q
        have hlen : ll = lineL fs ++ (List.replicate j 0 ++ sendL q) ++ lineL rs := by rw [← Ell.out, hbs]; simp [lineL, blk]
        have hll2 : frn + nnn ≤ ll.length := by rw [hlen, hfr, hnn]; simp; omega
        have hp0 : ((pp.length : Int) == 0) = false := by rw [beq_eq_false_iff_ne]; have := hpl.out; have := List.length_pos_iff.2 h3; omega
        obtain ⟨r, hr⟩ : ∃ r : Nat, n % nnn = r := ⟨_, rfl⟩
        have hrn : r < nnn := by rw [← hr]; exact Nat.mod_lt _ (by omega)
        have hri : (n : Int) % (nnn : Int) = (r : Int) := by rw [← hr]; simp
        have hz2 : ((nnn : Int) == 0) = false := by rw [beq_eq_false_iff_ne]; omega
        have hidx : frn + r < ll.length := by omega
        obtain ⟨g, cl', el, hg, hfz, hcell, hset⟩ := own_store hln3.line (by omega)
        injection el with e1 e2 e3
        subst e1; subst e3
        clear e2
        have hcl : w3.drew.cell? ⟨g, frn + r, none⟩ = some (bv (ll.getD (frn + r) 0)) := hcell _ hidx
        have hwr : IntKind.i64.wrap ((frn : Int) + (r : Int)) = ((frn : Int) + (r : Int)) := IntWalk.i64_in _ (by omega)
        have Hset := Lib.hid hset
        have Hlen := Lib.hid hlen
        have Hbs := Lib.hid hbs
        have Hfr := Lib.hid hfr
        have Hnn := Lib.hid hnn
        have Hr := Lib.hid hr
        clear hset hlen hbs hfr hnn hr hcell h3
        by_cases hx : ll.getD (frn + r) 0 = t
        · rw [hx] at hcl
          have T := Lib.hid (law_tail hL hb3.drew)
          clear hx
          go_wp2_with fail
          go_region
          go_wp2_with fail
          refine T.out.mono ?_
          rintro e w4 ⟨rfl, b4⟩
          go_wp2
          go_ret
          exact ⟨rfl, hb3.drew.trans (b4.mono hb3.drew.size)⟩
        · have tx : (((ll.getD (frn + r) 0).toNat : Int) == (t.toNat : Int)) = false := by
            rw [beq_eq_false_iff_ne]
            intro h
            exact hx (UInt8.toNat_inj.1 (by omega))
          clear hx
          generalize ll.getD (frn + r) 0 = x0 at hcl tx
          go_wp2_with fail
          go_region
          have g3' : w3.drew.drew.cell? _ = _ := hx3.f3
          have g4' : w3.drew.drew.cell? _ = _ := hx3.f4
          have hfz' : w3.drew.drew.frozen? ⟨g, frn + r, none⟩ = false := hfz _
          have hcl' : w3.drew.drew.cell? ⟨g, frn + r, none⟩ = some (bv x0) := hcl
          have hln4 : Ln w0 (w3.setCell ⟨g, frn + r, none⟩ (bv t)).drew.drew (.slice (some ⟨g, 0, none⟩) ll.length cl) (.slice Aa pp.length ca) (ll.set (frn + r) t) pp := by
            have h1 := hln3.store (i := frn + r) (t := t) hg (Hset.out (frn + r) t hidx)
            exact ⟨h1.below.drew.drew, h1.line, h1.packs⟩
          have hyl : (ll.set (frn + r) t).length = ll.length := List.length_set
          have hys : ∃ mid, ll.set (frn + r) t = lineL fs ++ mid ++ lineL rs := by
            have := set_line fs rs j q r t (by rw [← Hnn.out]; exact hrn)
            rw [← Hlen.out, ← Hfr.out] at this
            exact this
          have Hln4 := Lib.hid hln4
          have Hyl := Lib.hid hyl
          have Hys := Lib.hid hys
          clear hln4 hyl hys
          go_wp2_with fail
          go_region
          go_wp2_with fail
          have hln4 := Hln4.out
          have hyl := Hyl.out
          obtain ⟨mid, hys⟩ := Hys.out
          clear Hln4 Hyl Hys Hset g3 g4 g3' g4' hfz' hfz hcl hcl' KL KS KB P2 PA hx3 hln hln1 hln2 r1 hri hwr
          generalize (w3.setCell ⟨g, frn + r, none⟩ (bv t)).drew.drew = wx at hln4 ⊢
          generalize ll.set (frn + r) t = ys at hln4 hyl hys
          have hbx := hb0.trans (hln4.below.mono hb0.size)
          obtain ⟨Ay, cy, el, rl⟩ := Rd.of_own hln4.line
          injection el with e1 e2 e3
          subst e1; subst e3
          clear e2
          have hokf : okB fs := fun b hb => Hok.out b (by rw [Hbs.out]; exact List.mem_append_left _ hb)
          have hokr : okB rs := fun b hb => Hok.out b (by rw [Hbs.out]; exact List.mem_append_right _ (List.mem_cons_of_mem _ hb))
          have kl := line_any wx _ cl ys rl (by omega)
          rw [hyl] at kl
          have ks := fun (W : World) (hL : Laid W) (A : Option Addr) (c : Nat) (h : Rd W W.heap.size A c ys) => listen_any W hL A c ys h (by omega)
          have hft : ∃ t1, (listenL ys).1 = packL fs ++ t1 := by rw [hys, List.append_assoc]; exact changed_front fs hokf _
          have hrt : ∀ b rs', rs = b :: rs' → ∃ t2, (listenL ys).1 = packL fs ++ t2 ++ packL rs' := fun b rs' e => by
            rw [hys, e]
            exact changed_rest fs hokf mid b rs' fun x hx => hokr x (by rw [e]; exact List.mem_cons_of_mem _ hx)
          have hul := listen_len ys
          generalize listenL ys = L at ks hft hrt hul
          obtain ⟨us, dn⟩ := L
          simp only at ks hft hrt hul
          have hppe : pp = packL fs ++ (q :: packL rs) := by rw [← Epp.out, Hbs.out]; simp
          have hppl : pp.length = fs.length + 1 + rs.length := by rw [hppe]; simp; omega
          have KL := Lib.hid kl
          have KS : Hid (∀ (W : World) (_ : Laid W) (A : Option Addr) (c : Nat), Rd W W.heap.size A c ys → Calls Tryd.prog 30 #[.slice A ys.length c] W (ResL W us dn)) := Lib.hid ks
          have Hft := Lib.hid hft
          have Hrt := Lib.hid hrt
          have Hppe := Lib.hid hppe
          have Hppl := Lib.hid hppl
          have hy1 : ys.length ≤ 20000 := by omega
          have Hys := Lib.hid hys
          have Hyl := Lib.hid hyl
          clear kl ks hft hrt hppe hppl hys hyl
          go_wp2_with fail
          refine KL.out.mono ?_
          rintro e w5 ⟨A5, c5, rfl, r5, b5⟩
          have hln5 := hln4.to b5
          have hb5 := hb0.trans (hln5.below.mono hb0.size)
          go_wp2_with fail
          refine (KS.out _ (hL.below hb5) _ _ r5).mono ?_
          rintro e w6 ⟨A6, c6, rfl, p6, b6⟩
          have hln6 := hln5.to b6
          have hb6 := hb0.trans (hln6.below.mono hb0.size)
          obtain ⟨Aa', ca', ea, pa⟩ := hln6.packs.rds hln6.below
          injection ea with e1 e2 e3
          subst e1; subst e3
          clear e2
          have hle6 := pa.le
          have hsl1 := fun W : World => sliceP_h Aa pp.length ca (fs.length : Int) W (by omega) (by have := Hppl.out; omega)
          simp only [Int.toNat_natCast] at hsl1
          have kb : Calls Tryd.prog 31 #[.slice A6 us.length c6, .slice Aa fs.length ca] w6 (ResB w6 true) := by
            obtain ⟨t1, ht1⟩ := Hft.out
            have hpt := pa.take (k := fs.length) (by have := Hppl.out; omega)
            have htk : pp.take fs.length = packL fs := by rw [Hppe.out, show fs.length = (packL fs).length from (List.length_map _).symm, List.take_left]
            rw [htk] at hpt
            have := begins_true w6 A6 Aa c6 ca (packL fs) t1 (by rw [← ht1]; exact p6) hpt (by rw [← ht1]; omega)
            rw [← ht1, show (packL fs).length = fs.length from List.length_map _] at this
            exact this
          have KB := Lib.hid kb
          have P6 := Lib.hid p6
          have PA := Lib.hid pa
          clear kb p6 pa
          go_wp2_with fail
          refine KB.out.mono ?_
          rintro e w7 ⟨rfl, b7⟩
          have hln7 := hln6.to b7
          have hb7 := hb0.trans (hln7.below.mono hb0.size)
          have p7 := (P6.out.below b7).more b7.size
          have pa7 := (PA.out.below b7).more b7.size
          clear hsl1 P6 PA KB KL KS
          by_cases h2 : fs.length + 2 < pp.length
          · have t2 : (fs.length : Int) + 2 < (pp.length : Int) := by omega
            obtain ⟨b, rs', hrs⟩ : ∃ b rs', rs = b :: rs' := by
              cases rs with
              | nil => have := Hppl.out; simp at this; omega
              | cons b rs' => exact ⟨b, rs', rfl⟩
            obtain ⟨t3, ht3⟩ := Hrt.out b rs' hrs
            have hnr : pp.length = fs.length + 2 + rs'.length := by have := Hppl.out; rw [hrs] at this; simp at this; omega
            have hdr : pp.drop (fs.length + 2) = packL rs' := by
              have e : pp = (packL fs ++ [q, b.2]) ++ packL rs' := by rw [Hppe.out, hrs]; simp
              rw [e, show fs.length + 2 = (packL fs ++ [q, b.2]).length by simp, List.drop_left]
            have hul3 : us.length = fs.length + t3.length + rs'.length := by rw [ht3]; simp; omega
            have hdu : us.drop (us.length - rs'.length) = packL rs' := by
              rw [show us.length - rs'.length = (packL fs ++ t3).length by rw [hul3]; simp, ht3, List.drop_left]
            obtain ⟨A7, c7, hc7, pr⟩ := pa7.from_ (k := fs.length + 2) (by omega)
            obtain ⟨A8, c8, hc8, pu⟩ := p7.from_ (k := us.length - rs'.length) (by omega)
            rw [hdr] at pr
            rw [hdu] at pu
            have hsl2 := fun W : World => sliceP_from Aa pp.length ca ((fs.length : Int) + 2) W (by omega) (by omega)
            rw [show ((fs.length : Int) + 2).toNat = fs.length + 2 from by omega, hc7, show pp.length - (fs.length + 2) = rs'.length from by omega] at hsl2
            have hsl3 := fun W : World => sliceP_from A6 us.length c6 ((us.length : Int) - (rs'.length : Int)) W (by omega) (by omega)
            rw [show ((us.length : Int) - (rs'.length : Int)).toNat = us.length - rs'.length from by omega, hc8, show us.length - (us.length - rs'.length) = rs'.length from by omega] at hsl3
            have kb := begins_true w7 A8 A7 c8 c7 (packL rs') [] (by rw [List.append_nil]; exact pu) pr (by rw [List.append_nil, List.length_map]; omega)
            rw [List.append_nil, show (packL rs').length = rs'.length from List.length_map _] at kb
            have t4 : (fs.length : Int) + (rs'.length : Int) ≤ (us.length : Int) := by omega
            have hb20 : us.length ≤ 20000 := by omega
            have hb21 : fs.length ≤ 8 := by omega
            have hb22 : rs'.length ≤ 8 := by omega
            have KB := Lib.hid kb
            clear kb hc7 hc8 hdr hdu hnr hul3 hrs ht3 pr pu
            go_wp2_with fail
            refine KB.out.mono ?_
            rintro e w8 ⟨rfl, b8⟩
            have hb8 := hb7.trans (b8.mono hb7.size)
            have T := Lib.hid (law_tail hL hb8)
            go_wp2_with fail
            refine T.out.mono ?_
            rintro e w9 ⟨rfl, b9⟩
            go_wp2
            go_ret
            exact ⟨rfl, hb8.trans (b9.mono hb8.size)⟩
          · have t2 : ¬ (fs.length : Int) + 2 < (pp.length : Int) := by omega
            have T := Lib.hid (law_tail hL hb7)
            have hb21 : fs.length ≤ 8 := by have := Hppl.out; omega
            go_wp2_with fail
            refine T.out.mono ?_
            rintro e w9 ⟨rfl, b9⟩
            go_wp2
            go_ret
            exact ⟨rfl, hb7.trans (b9.mono hb7.size)⟩

end Go.Proofs.YtbeghnpdmcmdmaaDoor
