/-
  Helper text: append, of our own machine; no statement is proved here.
-/
import Derived.Test.YtgihpgdjkanodaaGreatDoorEvE
namespace Go.Proofs.YtgihpgdjkanodaaGreatDoor.Ev
noncomputable section
open Go Go.RowKit

theorem growBy_le (m : Nat) : ∀ (r c : Nat), Builtin.growBy m r c ≤ max c (2 * m + 768)
  | 0, c => by simp [Builtin.growBy]; omega
  | r + 1, c => by
    simp only [Builtin.growBy]
    split
    · omega
    · have := growBy_le m r (c + (c + 768) / 4); omega

theorem nextcap_le (m c : Nat) (h : c < m) : Builtin.nextslicecap m c ≤ 2 * m + 768 := by
  unfold Builtin.nextslicecap
  split
  · omega
  · split
    · omega
    · have := growBy_le m 4 c; omega

section
variable {P : Program} {argTypes : Array TypeId} {ty st xt e : TypeId} {xd : TypeDesc} {i : TypeInfo} {z : Value}

set_option maxHeartbeats 4000000 in
theorem run_append_in (h0 : argTypes[0]? = some st) (h1 : argTypes[1]? = some xt) (hst : P.underlying st = some (.slice e)) (hxt : P.underlying xt = some xd) (hxd : isInt xd = false) (hi : P.info? e = some i)
    {a : Addr} {sLen sCap n : Nat} {x : Value} {new : List Value} {w : World} (hlen : (Builtin.lenOf x).run P w = .ok n w) (hle : sLen + n ≤ sCap)
    (hnew : (Builtin.firstCells i.size n x).run P w = .ok ⟨new⟩ w) :
    (Builtin.append_ argTypes ty #[.slice (some a) sLen sCap, x]).run P w = ((storeCells (a.add (sLen * i.size)) new).run P w).andThen fun _ w' => .ok (.slice (some a) (sLen + n) sCap) w' := by
  have hsz : size? P e = some i.size := by simp [size?, hi]
  cases xd <;> first
    | (simp [isInt] at hxd; done)
    | simp [Builtin.append_, h0, h1, run_under hst, run_sizeOf hsz, run_under hxt, hlen, hle, hnew]

set_option maxHeartbeats 4000000 in
theorem run_append_nil (h0 : argTypes[0]? = some st) (h1 : argTypes[1]? = some xt) (hst : P.underlying st = some (.slice e)) (hxt : P.underlying xt = some xd) (hxd : isInt xd = false) (hi : P.info? e = some i)
    {x : Value} {new : Array Value} {w : World} (hlen : (Builtin.lenOf x).run P w = .ok 0 w)
    (hnew : (Builtin.firstCells i.size 0 x).run P w = .ok new w) :
    (Builtin.append_ argTypes ty #[.slice none 0 0, x]).run P w = .ok (.slice none 0 0) w := by
  have hsz : size? P e = some i.size := by simp [size?, hi]
  cases xd <;> first
    | (simp [isInt] at hxd; done)
    | simp [Builtin.append_, h0, h1, run_under hst, run_sizeOf hsz, run_under hxt, hlen, hnew]

set_option maxHeartbeats 4000000 in
theorem run_append_grow (h0 : argTypes[0]? = some st) (h1 : argTypes[1]? = some xt) (hst : P.underlying st = some (.slice e)) (hxt : P.underlying xt = some xd) (hxd : isInt xd = false) (hi : P.info? e = some i) (hz : i.zero = some z)
    (hb : i.bytes ≤ 1048576) {a : Option Addr} {sLen sCap n : Nat} {x : Value} {old new : List Value} {w : World} (hm : sLen + n ≤ 1048576) (hlen : (Builtin.lenOf x).run P w = .ok n w) (hle : ¬ sLen + n ≤ sCap)
    (hold : (Builtin.firstCells i.size sLen (.slice a sLen sCap)).run P w.drew = .ok ⟨old⟩ w.drew)
    (hnew : (Builtin.firstCells i.size n x).run P w.drew = .ok ⟨new⟩ w.drew) :
    ∃ cap, sLen + n ≤ cap ∧ (Builtin.append_ argTypes ty #[.slice a sLen sCap, x]).run P w = .ok (.slice (some ⟨w.heap.size, 0, none⟩) (sLen + n) cap) (w.drew.alloc (.cells (⟨old⟩ ++ (⟨new⟩ ++ Builtin.zeroCells z.cells (cap - (sLen + n)))) e)) := by
  have hsz : size? P e = some i.size := by simp [size?, hi]
  have hc := nextcap_le (sLen + n) sCap (by omega)
  have hc2 : ¬ (Builtin.nextslicecap (sLen + n) sCap * i.bytes > 281474976710656) := by
    have := Nat.mul_le_mul (Nat.le_trans hc (show 2 * (sLen + n) + 768 ≤ 2097920 by omega)) hb
    omega
  have hmax : ¬ (9223372036854775807 < (sLen : Int) + (n : Int) ∧ i.bytes = 0) := by
    intro hh
    omega
  refine ⟨Question.cut (.appendCap (sLen + n) sCap e) (w.tape w.drawn (.appendCap (sLen + n) sCap e)), by simp [Question.cut], ?_⟩
  cases xd <;> first
    | (simp [isInt] at hxd; done)
    | simp [Builtin.append_, h0, h1, run_under hst, run_sizeOf hsz, run_under hxt, hlen, hle, run_typeInfo hi, hmax, hc2, Question.forced, zeroValue, hz, newRow, hold, hnew]
end
end
end Go.Proofs.YtgihpgdjkanodaaGreatDoor.Ev
