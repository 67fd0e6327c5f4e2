/-
  Helper text: whether the law file's device is small; no statement is proved here.
-/
import Derived.Test.YtkfkcpogcobmbaaDoorScD
namespace Go.Proofs.YtkfkcpogcobmbaaDoor
open Go Go.RowKit

/-- Few answers with short data, and few faults. -/
def smallP (l : List Pkt) (m : Nat) : Prop := l.length ≤ 20 ∧ m ≤ 60 ∧ ∀ j (h : j < l.length), l[j].data.length ≤ 1100
def SmallPost (w : World) (l : List Pkt) (m : Nat) (e : Ending) (w' : World) : Prop := ∃ b : Bool, ResV w (.bool b) e w' ∧ (b = true → smallP l m)
set_option maxHeartbeats 1600000 in
set_option maxRecDepth 100000 in
theorem small_any (w : World) (A B : Option Addr) (c cb m : Nat) (l : List Pkt) (F : Nat → Prop) (h : RdL layPk F w A c l) :
    Calls Tryd.prog 18 #[.agg #[.slice A l.length c, .slice B m cb]] w (SmallPost w l m) := by
  have g0 := alloc1 w (.cells #[.slice A l.length c, .slice B m cb] 62)
  have hb0 := (Below.refl w.heap.size w).alloc (Nat.le_refl _) (.cells #[.slice A l.length c, .slice B m cb] 62)
  have hlt := h.lt (by decide : 0 < layPk.sz)
  have h1 := hlt.keep (w' := w.alloc (.cells #[.slice A l.length c, .slice B m cb] 62)) fun k hk => hb0.block k hk.2
  have c0 := block_at g0 (i := 0) (v := .slice A l.length c) rfl
  have c1 := block_at g0 (i := 1) (v := .slice B m cb) rfl
  have H1 := Lib.hid h1
  have Hb := Lib.hid hb0
  clear g0 hb0 hlt h h1
  by_cases hl : (20 : Int) < (l.length : Int)
  · go_enter Tryd.func18, Tryd.ntmps18
    go_wp2
    go_ret
    exact ⟨false, ⟨rfl, Hb.out⟩, fun e => by cases e⟩
  by_cases hm : (60 : Int) < (m : Int)
  · go_enter Tryd.func18, Tryd.ntmps18
    go_wp2
    go_ret
    exact ⟨false, ⟨rfl, Hb.out⟩, fun e => by cases e⟩
  go_enter Tryd.func18, Tryd.ntmps18
  go_wp2
  go_loopw [3] (fun i W => ∃ k : Nat, k ≤ l.length ∧ i = .int .i64 k ∧ W = w.alloc (.cells #[.slice A l.length c, .slice B m cb] 62) ∧ ∀ j (h : j < l.length), j < k → l[j].data.length ≤ 1100) (fun i _ => l.length - (intOf i).toNat)
  case atStart => exact ⟨0, by omega, rfl, rfl, fun j _ h => by omega⟩
  case round =>
    obtain ⟨k, hk, rfl, rfl, hall⟩ := hrel
    have Hall := Lib.hid hall
    clear hall
    by_cases hkl : k < l.length
    · obtain ⟨b1, o1, A1, c2, rfl, _, hr1, _⟩ := H1.out.elem k hkl
      have c9 := hr1 9 (.slice A1 l[k].data.length c2) rfl
      have c9' : (w.alloc (.cells #[.slice (some ⟨b1, o1, none⟩) l.length c, .slice B m cb] 62)).cell? ⟨b1, o1 + k * 10 + 9, none⟩ = some (.slice A1 l[k].data.length c2) := c9
      obtain ⟨n, hn⟩ : ∃ n, l[k].data.length = n := ⟨_, rfl⟩
      rw [hn] at c9'
      have Hn := Lib.hid hn
      clear hr1 c9 hn
      by_cases hd : (1100 : Int) < (n : Int)
      · go_wp2
        go_ret
        exact ⟨false, ⟨rfl, Hb.out⟩, fun e => by cases e⟩
      · go_wp2
        go_roundw
        case rel => exact ⟨k + 1, by omega, by go_num, (by first | trivial | rfl), fun j h hj => by
          by_cases e : j = k
          · subst e; rw [Hn.out]; omega
          · exact Hall.out j h (by omega)⟩
        case measure => simp [intOf]; omega
    · go_wp2
      go_ret
      exact ⟨true, ⟨rfl, Hb.out⟩, fun _ => ⟨by omega, by omega, fun j h => Hall.out j h (by omega)⟩⟩

end Go.Proofs.YtkfkcpogcobmbaaDoor
