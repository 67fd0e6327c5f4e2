/-
  Helper text: EndpointsNew returns true for any description and any number; no statement is proved here.
-/
import Derived.Test.YtkdlonpdnphmoaaGreatDoorE7Run
import Derived.Test.YtkdlonpdnphmoaaGreatDoorRdB
import Derived.Test.YtkdlonpdnphmoaaGreatDoorShelf
open Go Go.Proofs.YtkdlonpdnphmoaaGreatDoor.Ev Go.RowKit
namespace Go.Proofs.YtkdlonpdnphmoaaGreatDoor
theorem joinOK : JoinOK Tryz.prog 96 := by
  refine ⟨⟨_, Tryz.func96, rfl⟩, fun w b o cap xs sep hc hb hl hcap hj => ?_⟩
  exact Tryz.strings_Join b o cap xs sep w hc hb (by omega) hcap (by omega)
theorem hlc : CalOK Tryz.prog (aCallY Tryz.prog (shortJoin 96) 60) := aCallY_ok (noNum_of noNum) mixed (fun _ hc => shortJoin_ok joinOK hc) 60
theorem hcal : CalOK Tryz.prog (short 24 tabs (aCall Tryz.prog (drawR Tryz.prog) 60)) := short_okC hlc livesT (machine_ok (noNum_of noNum) mixed 60)
theorem refE (dp : Dec) : Refines (shortD 24 tabs (aCallZ Tryz.prog (decsE dp) 60)) (short 24 tabs (aCall Tryz.prog (drawR Tryz.prog) 60)) := shortD_ok (aCallZ_ok 60)
structure SaysE (P : Program) (dec dp : Dec) (args : List AV) : Prop where
  is : Says (runE P dec dp args)
theorem e_of {P : Program} {dec dp : Dec} {args : List AV} {Q : Prop} (e : Says (runE P dec dp args) = Q) (q : Q) : SaysE P dec dp args := ⟨Eq.mpr e q⟩
abbrev cfgV (a : Nat) (b : Bool) (k : Nat) (m : Int) : Value := .agg #[.int .u8 a, .bool b, .int .u8 k, .int .i64 m]
theorem cfg_V {σ : Sg} (a : Nat) (b : Bool) (k : Nat) (m : Int) : V σ (cfg a b k m) (cfgV a b k m) := by simp [cfg, V, VL]
set_option maxRecDepth 100000 in
theorem ways {W : World} (hT : Held W tabs) (a : Nat) (b : Bool) (k : Nat) (m n : Int) {dec dp : Dec} (hs : SaysE Tryz.prog dec dp [cfg a b k m, .int .i64 n]) :
    Calls Tryz.prog 3 #[cfgV a b k m, .int .i64 n] W fun e W' => e = .returned (.bool true) ∧ Below W.heap.size W W' := by
  have hs := hs.is
  unfold runE at hs
  exact law_ok (noNum_of noNum) mixed hcal (refE dp) hs (σ := σ₀ W) (ys := [cfgV a b k m, .int .i64 n]) (held_HR hT) ⟨_, _, rfl, cfg_V a b k m, _, _, rfl, rfl, rfl⟩ (fun id h => by unfold σ₀; rw [if_neg (by omega)]) (by omega) (fun g hg => ⟨_, by simp only [σ₀]; rw [if_pos hg]⟩) tables_only
theorem beq_cfg (a : Int) (b : Bool) (k m : Int) : AV.beq (cfg a b k m) (cfg a b k m) = true := by simp [cfg, AV.beq, AV.beqL]
set_option maxRecDepth 100000 in
theorem new_any {W : World} (hT : Held W tabs) (a : Nat) (b : Bool) (k : Nat) (m n : Int) :
    Calls Tryz.prog 3 #[cfgV a b k m, .int .i64 n] W fun e W' => e = .returned (.bool true) ∧ Below W.heap.size W W' := by
  by_cases h0 : a < 1
  · exact ways hT a b k m n (e_of (e0 a b k m n) (by unfold owes0; simp; omega))
  by_cases h1 : 15 < a
  · exact ways hT a b k m n (e_of (e1 a b k m n) (by unfold owes1; simp; omega))
  by_cases h2 : k < 1
  · exact ways hT a b k m n (e_of (e2 a b k m n) (by unfold owes2; simp; omega))
  by_cases h3 : 3 < k
  · exact ways hT a b k m n (e_of (e3 a b k m n) (by unfold owes3; simp; omega))
  by_cases h4 : m < 1
  · exact ways hT a b k m n (e_of (e4 a b k m n) (by unfold owes4; simp; omega))
  by_cases h5 : 1024 < m
  · exact ways hT a b k m n (e_of (e5 a b k m n) (by unfold owes5; simp; omega))
  refine ways hT a b k m n (e_of (eV a b k m n) ?_)
  unfold owesV
  rw [beq_cfg]
  simp
  omega
/-- The table as our machine has it. -/
theorem held_of {W : World} (h : Laid W) : Held W tabs := fun g cs hm => by
  simp only [tabs, List.mem_singleton, Prod.mk.injEq] at hm
  obtain ⟨rfl, rfl⟩ := hm
  refine ⟨by decide, by decide, fun j a ha => ?_⟩
  have e : pidA = pidL.map AV.str := rfl
  rw [e, List.getElem?_map, Option.map_eq_some_iff] at ha
  obtain ⟨x, hx, rfl⟩ := ha
  have hj : j < 16 := (List.getElem?_eq_some_iff.1 hx).1
  refine ⟨_, rfl, (h.pid j hj).trans ?_⟩
  rw [List.getD_eq_getElem?_getD, hx]
  rfl
end Go.Proofs.YtkdlonpdnphmoaaGreatDoor
