/-
  The law TogglesSteps: all its ways; no statement is proved here.
-/
import Derived.Test.YtjilbgdenolllaaLawStEt
import Derived.Test.YtjilbgdenolllaaLawStEf
import Derived.Test.YtjilbgdenolllaaLawStSt
import Derived.Test.YtjilbgdenolllaaLawStSf
namespace Go.Proofs.Ytjilbgdenolllaa
open Go Go.RowKit

theorem lsteps_any (w : World) (st rt : Bool) (A A' A2 : Option Addr) (c c' c2 : Nat) (ps qs : List (List UInt8)) (xs : List UInt8) (h : Rds w w.heap.size A c ps) (h' : Rds w w.heap.size A' c' qs) (h2 : Rd w w.heap.size A2 c2 xs) :
    Calls Try.prog 4 #[sv st (.slice A ps.length c), sv rt (.slice A' qs.length c'), .slice A2 xs.length c2] w (ResB w true) := by
  by_cases hs : SmallP ps 20
  · by_cases hs' : SmallP qs 20
    · by_cases hn : 64 < xs.length
      · exact lsteps_many w st rt A A' A2 c c' c2 xs.length ps qs h h' hs hs' hn
      · rcases Nat.eq_zero_or_pos ps.length with hz | hz
        · cases rt with
          | true => exact lsteps_et w st A A' A2 c c' c2 ps qs h h' hs hs' xs h2 (by omega) (Lib.hid hz)
          | false => exact lsteps_ef w st A A' A2 c c' c2 ps qs h h' hs hs' xs h2 (by omega) (Lib.hid hz)
        · cases rt with
          | true => exact lsteps_st w st A A' A2 c c' c2 ps qs h h' hs hs' xs h2 (by omega) (Lib.hid hz)
          | false => exact lsteps_sf w st A A' A2 c c' c2 ps qs h h' hs hs' xs h2 (by omega) (Lib.hid hz)
    · exact lsteps_small2 w st rt A A' A2 c c' c2 xs.length ps qs h h' hs hs'
  · exact lsteps_small1 w st rt A A' A2 c c' c2 qs.length xs.length ps h hs
end Go.Proofs.Ytjilbgdenolllaa
