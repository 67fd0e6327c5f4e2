/-
  Helper text: data is read from its bytes; no statement is proved here.
-/
import Derived.Test.YtkmjemaajgdoiaaDoorEncAll
import Derived.Test.YtkmjemaajgdoiaaDoorCkCheck
namespace Go.Proofs.YtkmjemaajgdoiaaDoor
open Go Go.RowKit

theorem results_row_tmp {P : Program} {fn : Func} {p u : Tmp} {ty : TypeId} (h : fn.results = #[.cell p ty, .tmp u]) (tmps : Array Value) (w : World) (g : Nat) (t : TypeId) (cs : Array Value) (fr : Nat × Nat) (d : TypeDesc)
    (hp : tmps.getD p undef = .pointer (some ⟨g, 0, none⟩)) (hg : w.heap[g]? = some (.cells cs t fr))
    (hu : P.underlying ty = some d) (hd : (match d with | .struct _ | .array _ _ => true | _ => false) = true) (hi : (P.info? ty).map (·.size) = some cs.size) :
    (results fn tmps).run P w = .ok (.tuple #[.agg cs, tmps.getD u undef]) w := by
  have hp' : tmps[p]?.getD undef = .pointer (some ⟨g, 0, none⟩) := by simpa using hp
  simp [results, h, hp', asAddr, run_loadVar_row w g t ty cs fr d hg hu hd hi]
/-- A packet with data of the call's own and an error number are returned. -/
def ResPk (w : World) (r : Rg) (ys : List UInt8) (E : Nat) (e : Ending) (w' : World) : Prop :=
  ∃ v, e = .returned (.tuple #[.agg (pcells { r with data := v }), .int .i64 (E : Int)]) ∧ w'.ownsRow w.heap.size 5 1 v ys.length (ys.map bv) ∧ Below w.heap.size w w'
/-- .. with an error. -/
theorem resPk_none (w : World) (p E : Nat) (w' : World) (h : Below w.heap.size w w') : ResPk w (bare p) [] E (.returned (.tuple #[.agg (pcells (bare p)), .int .i64 (E : Int)])) w' := ⟨_, rfl, own_nil _ _ _, h⟩

theorem grown10 (W : World) (B : Nat) (v0 v1 v2 v3 v4 v5 v6 v7 v8 v9 : Value) : W.grownBy ((((((((((W.setCell ⟨B, 0, none⟩ v0).setCell ⟨B, 1, none⟩ v1).setCell ⟨B, 2, none⟩ v2).setCell ⟨B, 3, none⟩ v3).setCell ⟨B, 4, none⟩ v4).setCell ⟨B, 5, none⟩ v5).setCell ⟨B, 6, none⟩ v6).setCell ⟨B, 7, none⟩ v7).setCell ⟨B, 8, none⟩ v8).setCell ⟨B, 9, none⟩ v9) (some B) :=
  (Ck.grown_trans (Ck.grown_trans (Ck.grown_trans (Ck.grown_trans (Ck.grown_trans (Ck.grown_trans (Ck.grown_trans (Ck.grown_trans (Ck.grown_trans (Ck.grown_trans (Ck.grown_refl _ _) (grown_store _ B 0 v0)) (grown_store _ B 1 v1)) (grown_store _ B 2 v2)) (grown_store _ B 3 v3)) (grown_store _ B 4 v4)) (grown_store _ B 5 v5)) (grown_store _ B 6 v6)) (grown_store _ B 7 v7)) (grown_store _ B 8 v8)) (grown_store _ B 9 v9))
theorem own_grown {w w' : World} {base t : Nat} {v : Value} {n : Nat} {vs : List Value} {g : Nat} (h : w.ownsRow base t 1 v n vs) (hg : w.grownBy w' (some g)) (hlt : g < base) : w'.ownsRow base t 1 v n vs :=
  h.kept hg (by
    cases hv : v.ownBlock with
    | none => exact .inl rfl
    | some k => exact .inr (fun e => by injection e with e; have := (h.lt k hv).1; omega))

end Go.Proofs.YtkmjemaajgdoiaaDoor
