/-
  Helper text: the error of a packet, as plain data; no statement is proved here.
-/
import Derived.Test.YtgihpgdjkanodaaGreatDoorMv
import Derived.Test.YtgihpgdjkanodaaGreatDoorRcAll
namespace Go.Proofs.YtgihpgdjkanodaaGreatDoor
open Go Go.RowKit

theorem Fit.data_any {r : Rg} {xs : List UInt8} (v : Value) (h : Fit r xs) : Fit { r with data := v } xs := by
  cases h with
  | tok hp h1 h2 h3 h4 h5 h6 h7 h8 h9 => exact .tok hp h1 h2 h3 h4 h5 h6 h7 h8 h9
  | sof hp h1 h2 h3 h4 h5 h6 h7 h8 h9 => exact .sof hp h1 h2 h3 h4 h5 h6 h7 h8 h9
  | split hp h1 h2 h3 h4 h5 h8 h9 => exact .split hp h1 h2 h3 h4 h5 h8 h9
  | data hp h1 h2 h3 h4 h5 h6 h7 h8 => exact .data hp h1 h2 h3 h4 h5 h6 h7 h8
  | bare hp h1 h2 h3 h4 h5 h6 h7 h8 h9 => exact .bare hp h1 h2 h3 h4 h5 h6 h7 h8 h9
theorem errR_data {r : Rg} (ok : r.Ok) (v : Value) (xs : List UInt8) : errR { r with data := v } xs = errR r xs := by
  have ok' : Rg.Ok { r with data := v } := ⟨ok.pid, ok.addr, ok.endp, ok.frame, ok.hub, ok.port, ok.kind, ok.spare⟩
  cases hk : known r.pid
  · rw [errR_no hk, errR_no (r := { r with data := v }) hk]
  by_cases hf : Fit r xs
  · by_cases hl : xs.length ≤ 1024
    · rw [errR_ok ok hk hf hl, errR_ok ok' hk (hf.data_any v) hl]
    · rw [errR_long ok hk hf (by omega), errR_long ok' hk (hf.data_any v) (by omega)]
  · rw [errR_bad ok hk hf, errR_bad ok' hk (fun h => hf (h.data_any r.data))]
theorem Pkt.Ok.err_eq {p : Pkt} (h : p.Ok) (v : Value) : errR (p.rg v) p.data = p.err := (errR_data (h.rg (.slice none p.data.length 0)) v p.data)
/-- The program's Check. -/
theorem pcheck_any (w : World) (hL : Laid w) (p : Pkt) (ok : p.Ok) (A : Option Addr) (c : Nat) (hx : Rd w w.heap.size A c p.data) :
    Calls Tryz.prog 49 #[pkV p A c] w (ResI w (p.err : Int)) := by
  rw [← ok.err_eq (.slice A p.data.length c)]
  exact check_any w hL (p.rg (.slice A p.data.length c)) (ok.rg _) A c p.data hx rfl
/-- The reference's. -/
theorem rcheck_any (w : World) (p : Pkt) (ok : p.Ok) (A : Option Addr) (c : Nat) :
    Calls Tryz.prog 42 #[pkV p A c] w (ResI w (p.err : Int)) := by
  rw [← ok.err_eq (.slice A p.data.length c)]
  exact refCheck_any w (p.rg (.slice A p.data.length c)) (ok.rg _) A c p.data rfl
theorem Pkt.err_len {p : Pkt} (ok : p.Ok) (h : p.err = 0) : p.data.length ≤ 1024 := by
  by_cases hl : p.data.length ≤ 1024
  · exact hl
  · exfalso
    unfold Pkt.err errR at h
    split at h
    · omega
    · omega
theorem Pkt.err_pid {p : Pkt} (h : p.err = 0) : known p.pid = true := by
  unfold Pkt.err errR at h
  split at h
  · rename_i hh; exact hh.1
  · omega
theorem Pkt.err_le (p : Pkt) : p.err ≤ 3 := by
  unfold Pkt.err errR
  split
  · split <;> omega
  · omega
theorem zeroP_err : zeroP.err = 1 := by
  unfold Pkt.err
  exact errR_no (by decide)

end Go.Proofs.YtgihpgdjkanodaaGreatDoor
