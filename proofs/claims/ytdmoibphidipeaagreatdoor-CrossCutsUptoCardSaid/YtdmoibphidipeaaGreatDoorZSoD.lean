/- Spots, the program's own: what Turns, Side and Text answer; the law's first call. -/
import Derived.Test.YtdmoibphidipeaaGreatDoorZOaI
import Derived.Lib.QuietBelow
import Derived.BigQuiet
import Derived.Deep.RegionHeld3
import Derived.IntWalk
import Derived.Test.YtdmoibphidipeaaGreatDoorZSoC
namespace Go.Proofs.YtdmoibphidipeaaGreatDoor
open Go.RowKit Num
open Go.Sort (grow)

/-- an int as a fraction that is handed in -/
theorem SF.toInt {P : Int} (hP : P.natAbs < 4294967296 ^ 2) {n : Bool} {a d : List Nat} {ca cd : Nat} (k : SF P 1 n a ca d cd) : SI P 1 2 n a ca d cd := by
  have h := (k.toR (m := 2) (by omega) hP (by decide)).toI
  have hd : val 4294967296 d = 1 := by have := k.2.2.2.2.2.2; rw [this]; simp
  have hr := (k.toR (m := 2) (by omega) hP (by decide)).2.2.2.2.2.2.2
  rw [hd] at h hr
  rw [show wv n a = P by simpa using hr] at h
  exact h
end Go.Proofs.YtdmoibphidipeaaGreatDoor
/- Spots, the program's own: what Side and Text answer; the law's last call. -/

namespace Go.Proofs.YtdmoibphidipeaaGreatDoor
open Go.RowKit Num
open Go.Sort (grow)

theorem SF.words {P : Int} {n : Bool} {a d : List Nat} {ca cd : Nat} (hP : P.natAbs < 4294967296) (k : SF P 1 n a ca d cd) : SI P 1 1 n a ca d cd := by
  have h := (k.toR (m := 1) (by omega) (by simpa using hP) (by decide)).toI
  have hd : val 4294967296 d = 1 := by have := k.2.2.2.2.2.2; rw [this]; simp
  have hr := (k.toR (m := 1) (by omega) (by simpa using hP) (by decide)).2.2.2.2.2.2.2
  rw [hd] at h hr
  rw [show wv n a = P by simpa using hr] at h
  exact h
end Go.Proofs.YtdmoibphidipeaaGreatDoor
/- The law SpotRows: its walk. -/

namespace Go.Proofs.YtdmoibphidipeaaGreatDoor
open Go.RowKit Num rows
open Go.Sort (grow)

theorem rv_SameG (P : Int) (Q k : Nat) (hk : k ≤ 4611686018427387904) : Fb2 64 (SG P Q k) (SG P Q k) true :=
  fun n n' a d a' d' A D A' D' ca cd ca' cd' w hS hT r q r' q' => by
    obtain ⟨rfl, rfl, rfl⟩ := SG.same hS hT
    exact ref4_same_true n a d A D A' D' ca cd ca' cd' w r q r' q' (Nat.le_trans hS.2.1 hk) (Nat.le_trans hS.2.2 hk)
theorem SG.turn {P P' : Int} {Q Q' m : Nat} (hQ : 0 < Q) (hQ' : 0 < Q') (h : P * (Q' : Int) = P' * (Q : Int)) {n : Bool} {a d : List Nat} {ca cd : Nat} (k : SG P Q m n a ca d cd) : SG P' Q' m n a ca d cd := ⟨k.1.conv hQ hQ' h, k.2⟩
end Go.Proofs.YtdmoibphidipeaaGreatDoor
