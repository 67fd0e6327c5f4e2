/-
  Helper text: the texts of a packet, the program's and the reference's, as the law calls them; no statement is proved here.
-/
import Derived.Test.YtfblpakoibadoaaDoorRefZ
import Derived.Test.YtfblpakoibadoaaDoorPktA
import Derived.Test.YtfblpakoibadoaaDoorLawSame
namespace Go.Proofs.YtfblpakoibadoaaDoor
open Go Go.RowKit

theorem rtext_any (w : World) (r : Rg) (ok : r.Ok) (A : Option Addr) (c : Nat) (xs : List UInt8) (hx : Rd w w.heap.size A c xs) (hl : xs.length ≤ 1024) (hd : r.data = .slice A xs.length c) (hf : Fit r xs) :
    Calls Tryd.prog 10 #[.agg (pcells r)] w (ResS w (Lib.join (wordsL r xs) [32])) := by
  rw [wordsL_rest]
  cases hf with
  | tok hp => rw [rest_tok hp]; exact rtext_tok w r ok A _ c hd hp
  | sof hp => rw [rest_sof hp]; exact rtext_sof w r ok A _ c hd hp
  | split hp _ _ _ _ _ h8 =>
    rw [rest_split hp]
    unfold splitL
    cases hc : r.comp <;> cases hl : r.low
    · exact rtext_spl_false_false w r ok h8 hc hl A _ c hd hp
    · exact rtext_spl_false_true w r ok h8 hc hl A _ c hd hp
    · exact rtext_spl_true_false w r ok h8 hc hl A _ c hd hp
    · exact rtext_spl_true_true w r ok h8 hc hl A _ c hd hp
  | data hp =>
    rw [rest_else (by omega)]
    by_cases h0 : xs = []
    · subst h0
      rw [if_pos rfl]
      exact rtext_bare w r ok A c hd (by omega)
    · rw [if_neg h0]
      exact rtext_data w r ok A c xs hx hl h0 hd hp
  | bare hp _ _ _ _ _ _ _ _ h9 =>
    rw [rest_else (by omega)]
    subst h9
    rw [if_pos rfl]
    exact rtext_bare w r ok A c hd (by omega)

/-- The texts of a packet. -/
structure Told (r : Rg) (ys tx : List UInt8) : Prop where
  text : ∀ W v A c, Laid W → Rd W W.heap.size A c ys → v = .slice A ys.length c → Calls Tryd.prog 9 #[.agg (pcells { r with data := v })] W (ResS W tx)
  rtext : ∀ W v A c, Rd W W.heap.size A c ys → v = .slice A ys.length c → Calls Tryd.prog 10 #[.agg (pcells { r with data := v })] W (ResS W tx)
theorem told_any {r : Rg} {ys : List UInt8} (ok : r.Ok) (hf : Fit r ys) (hyl : ys.length ≤ 1024) : Told r ys (Lib.join (wordsL r ys) [32]) :=
  ⟨fun W v A c hLW hR hv => text_any W hLW { r with data := v } (ok_data ok v) A c ys hR hv (fit_err (ok_data ok v) (fit_data hf v) hyl),
   fun W v A c hR hv => rtext_any W { r with data := v } (ok_data ok v) A c ys hR hyl hv (fit_data hf v)⟩
/-- Two packets: their texts are equal exactly if they are. -/
theorem two_any {r q : Rg} {xs ys : List UInt8} (okr : r.Ok) (okq : q.Ok) (hr : Fit r xs) (hq : Fit q ys) : ∃ b : Bool, ((⟨(Lib.join (wordsL r xs) [32]).toArray⟩ : ByteArray).toList == (⟨(Lib.join (wordsL q ys) [32]).toArray⟩ : ByteArray).toList) = b ∧
    ∀ W v v2 A c A' c', Rd W W.heap.size A c xs → Rd W W.heap.size A' c' ys → v = .slice A xs.length c → v2 = .slice A' ys.length c' → Calls Tryd.prog 6 #[.agg (pcells { r with data := v }), .agg (pcells { q with data := v2 })] W fun e w' => e = .returned (.int .i64 (difN b)) ∧ Below W.heap.size W w' := by
  refine ⟨sameB r q xs ys, ?_, fun W v v2 A c A' c' h1 h2 h3 h4 => differ_any W { r with data := v } { q with data := v2 } A A' c c' xs ys h1 h2 h3 h4⟩
  have h := words_inj hr hq (fit_known hr) (fit_known hq) (known_lt (fit_known hr)) (known_lt (fit_known hq))
  rw [eqStr, Bool.eq_iff_iff, decide_eq_true_iff]
  exact h

end Go.Proofs.YtfblpakoibadoaaDoor
