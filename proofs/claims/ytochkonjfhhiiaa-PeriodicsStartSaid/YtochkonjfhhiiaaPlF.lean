/-
  Helper text: first as a callee that is known by its contract, and the chapter's examples, run by our own machine; no statement is proved here.
-/
import Derived.Test.YtochkonjfhhiiaaEvB9
import Derived.Test.YtochkonjfhhiiaaFirst
open Go Go.Proofs.Ytochkonjfhhiiaa.Ev Go.RowKit
namespace Go.Proofs.Ytochkonjfhhiiaa
noncomputable section

/-- Memory of ours over which rows were laid that lie in blocks of F. -/
theorem over_stp {F : Nat → Prop} {σ τ : Sg} {h h' : Hp} {w w' : World} {a b : Nat} (hb : Below w.heap.size w w') (o : Over F σ h τ h' a b) (hF : ∀ k, F k → k < w.heap.size → lives σ h k) : Stp σ h w τ h' w' :=
  ⟨hb.os, hb.tape, hb.output, hb.size, fun k hk _ => hb.block k hk,
   fun k hk ⟨id, blk, p, hi, hw, hp, he⟩ => by
    rcases o.rows id blk hi with ⟨h1, h2⟩ | ⟨h1, _⟩
    · rw [h2] at hp; exact ⟨id, blk, p, h1, hw, hp, he⟩
    · rw [h1] at hw; simp at hw,
   fun k hk ⟨id, blk, p, hi, hp, he⟩ => by
    rcases o.rows id blk hi with ⟨h1, h2⟩ | ⟨_, q, hq, hFq⟩
    · rw [h2] at hp; exact ⟨id, blk, p, h1, hp, he⟩
    · rw [hp] at hq; obtain rfl := Option.some.inj hq
      rw [he] at hFq
      exact hF k hFq hk⟩

/-- No row of ours lies in a block that the world has not had. -/
theorem no_new {σ : Sg} {h : Hp} {w : World} (x : HR σ h w) {j : Nat} {bj : Blk} {q : Nat × Nat × Nat} (hj : h.get j = some bj) (hq : σ j = some q) (hb : w.heap.size ≤ q.1) : wr bj = false := by
  obtain ⟨p, hp, hlt⟩ := (x.has j bj hj).lt
  rw [hq] at hp; obtain rfl := Option.some.inj hp
  omega


theorem fst8 {ys : List Int} (h : FstT 8 3 4 2 ys) : ys = [11, 19] := by
  obtain ⟨h1, _, h2⟩ := h
  obtain ⟨h3, h4⟩ := h2 (by decide)
  have hT : T0 8 3 4 = 11 := by decide
  rw [hT] at h3 h4
  have hl : ys.length = 2 := by omega
  match ys, hl with
  | [a, b], _ =>
    have a0 := h3 0 (by simp)
    have a1 := h3 1 (by simp)
    simp at a0 a1
    rw [a0, a1]

def shortFst (g : FuncId) (call : Ev.Callee) : Ev.Callee := fun f args h nx =>
  bif Nat.beq f g then (match args with
    | [.int .i64 p, .int .i64 q, .int .i64 a, .int .i64 n] => bif decide (p = 8) && (decide (q = 3) && (decide (a = 4) && decide (n = 2))) then
        some (.sl nx 0 2 (.opn 1), h.set fuelT nx (some (.row [.int .i64 11, .int .i64 19] 0 true 2)), nx + 1) else none
    | _ => none)
  else call f args h nx

theorem shortFst_ok {call : Ev.Callee} (hcal : CalOK Try.prog call) : CalOK Try.prog (shortFst 15 call) := by
  intro f args h nx v h' nx' ha
  unfold shortFst at ha
  cases hf : Nat.beq f 15 with
  | false => simp only [hf, cond_false] at ha; exact hcal _ _ _ _ _ _ _ ha
  | true =>
    simp only [hf, cond_true] at ha
    obtain rfl := Nat.eq_of_beq_eq_true hf
    split at ha
    · rename_i p q a n
      cases hc : (decide (p = 8) && (decide (q = 3) && (decide (a = 4) && decide (n = 2)))) with
      | false => simp only [hc, cond_false] at ha; simp at ha
      | true =>
        simp only [hc, cond_true] at ha
        simp only [Option.some.injEq, Prod.mk.injEq] at ha
        obtain ⟨rfl, rfl, rfl⟩ := ha
        simp only [Bool.and_eq_true, decide_eq_true_eq] at hc
        obtain ⟨rfl, rfl, rfl, rfl⟩ := hc
        refine ⟨⟨_, Try.func15, rfl⟩, by omega, fun σ w ys x hv hfr hge hg => ?_⟩
        obtain ⟨y1, l1, rfl, hy1, y2, l2, rfl, hy2, y3, l3, rfl, hy3, y4, l4, rfl, hy4, rfl⟩ := hv
        obtain rfl := hy1
        obtain rfl := hy2
        obtain rfl := hy3
        obtain rfl := hy4
        refine (callsIn_wide.1 (first_in 5 (by omega) w 8 3 4 (by omega) 2 (by omega) (by omega))).mono ?_
        rintro e w' ⟨v, zs, rfl, hz, hown, hbe⟩
        obtain rfl := fst8 hz
        obtain ⟨_, h2⟩ := hown
        rcases h2 with ⟨_, hn⟩ | ⟨g, cap, cur, rfl, hgb, hh, hle, hm, hcs, ht⟩
        · simp at hn
        · have hn0 : σ nx = none := hfr nx (Nat.le_refl _) (by omega)
          obtain ⟨x', _⟩ := x.below hbe
          have hbr : BR (upd σ nx (g, 0, cur.size)) w' nx (.row [.int .i64 11, .int .i64 19] 0 true 2) := by
            refine ⟨g, 0, cur.size, cur, (0, 0), _, upd_same _ _ _, hh, rfl, by simp at hle ⊢; omega, fun e => by simp at e, ?_, fun e => by simp at e, fun e => by simp at e⟩
            have : (List.drop 0 cur.toList).take [AV.int .i64 11, AV.int .i64 19].length = [iv 11, iv 19] := by simpa using ht
            rw [this]
            exact VL.cons rfl (VL.cons rfl rfl)
          have x1 := x'.addRO hn0 hbr fun j bj q hj hq e => no_new x hj hq (by have : q.1 = g := e; omega)
          refine ⟨_, _, rfl, ⟨g, 0, cur.size, upd_same _ _ _, cap, rfl, by simpa using hle, by simp at hcs ⊢; omega⟩, x1, over_stp (F := fun k => k = g) (a := nx) (b := nx + 1) hbe ⟨upd_le hn0, fun j hj => ?_, fun j bj hj => ?_⟩ (fun k hF hk => ?_), fun j hj => ?_⟩
          · simp only [upd]; rw [if_neg (by omega)]
          · rcases Tr.get_set _ _ _ _ _ _ hj with ⟨rfl, e⟩ | ⟨hne, hj⟩
            · obtain rfl := Option.some.inj e
              exact .inr ⟨rfl, _, upd_same _ _ _, rfl⟩
            · exact .inl ⟨hj, by simp only [upd]; rw [if_neg hne]⟩
          · have : k = g := hF
            omega
          · simp only [upd]; rw [if_neg (by omega)]
    · simp at ha

def tabs : List (Nat × List AV) := []
theorem noNum : noNumB Try.prog = true := by decide +kernel
theorem mixed : Try.prog.follows .mixedOrders = true := by decide +kernel
/-- What is known by its contract. -/
def plugs (c : Ev.Callee) : Ev.Callee := shortFst 15 c
theorem plugs_ok : ∀ c, CalOK Try.prog c → CalOK Try.prog (plugs c) := fun _ h => shortFst_ok h
end
end Go.Proofs.Ytochkonjfhhiiaa
