/- Spots: contracts by what the parts are worth: half way, along a way; the numbers of SpotRounds. -/
import Derived.Test.YtdmoibphidipeaaGreatDoorZOaI
import Derived.Test.YtdmoibphidipeaaGreatDoorZOaH
namespace Go.Proofs.YtdmoibphidipeaaGreatDoor
open Go.RowKit Num

theorem Fn2.fitG {f : FuncId} {S S' : Shape} {P : Int} {Q m : Nat} (h : Fn2 f S S' (SF P Q)) {i j : Nat} (hP : P.natAbs < 4294967296 ^ i) (hi : i ≤ m) (hm : Q ≤ 4294967296 ^ j) (hj : j < m) : Fn2 f S S' (SG P Q m) :=
  h.imp (fun _ _ _ _ _ k => k) (fun _ _ _ _ _ k => k) fun _ _ _ _ _ k => k.toG (Nat.lt_of_lt_of_le hP (Nat.pow_le_pow_right (by omega) hi)) (lt_of_le_pow hm hj)
/-- a, and t times what b has more -/
def alongN (P P' R : Int) (Q Q' T : Nat) : Int := P * ((T * (Q' * Q) : Nat) : Int) + R * (P' * (Q : Int) - P * (Q' : Int)) * (Q : Int)
def alongD (Q Q' T : Nat) : Nat := Q * (T * (Q' * Q))
theorem fv_along {P P' R : Int} {Q Q' T i j l m k : Nat} (hQ : 0 < Q) (hQ' : 0 < Q') (hT : 0 < T) (hp : P.natAbs < 4294967296 ^ i) (hp' : P'.natAbs < 4294967296 ^ j) (hr : R.natAbs < 4294967296 ^ l) (hq : Q ≤ 4294967296 ^ i) (hq' : Q' ≤ 4294967296 ^ j) (ht : T ≤ 4294967296 ^ l) (hm1 : 1 ≤ m) (hm : m ≤ 2097150) (hl : i + j + l + 2 ≤ m) (hk : i + i + j + l + 3 ≤ k) :
    Fn3 116 (SV P Q m) (SV P' Q' m) (SV R T m) (SG (alongN P P' R Q Q' T) (alongD Q Q' T) k) := by
  have n0 := sub_lt hp' hp hq' hq (s := i + j) (by omega) (by omega)
  have d0 := prod_le hq' hq (Nat.le_refl _)
  have n1 := mulI_lt hr n0 (Nat.le_refl _)
  have d1 := prod_le ht d0 (Nat.le_refl _)
  have n2 := sum_lt hp n1 hq d1 (s := i + i + j + l + 1) (by omega) (by omega)
  have d2 := prod_le hq d1 (Nat.le_refl _)
  have k0 := Nat.mul_pos hQ' hQ
  have k1 := Nat.mul_pos hT k0
  have x0 := (fv_Sub P' P Q' Q m hQ' hQ hm1 hm).fit (m := m) k0 n0 (by omega) d0 (by omega)
  have x1 := (fv_Mul R _ T _ m hT k0 hm1 (by omega)).fit (m := m) k1 n1 (by omega) d1 (by omega)
  have x2 := (fv_Add P _ Q _ m hQ k1 hm1 hm).fitG (m := k) n2 (by omega) d2 (by omega)
  exact fun n1 n2 n3 a1 d1 a2 d2 a3 d3 A1 D1 A2 D2 A3 D3 c1 e1 c2 e2 c3 e3 w s1 s2 s3 r1 q1 r2 q2 r3 q3 => spot_along _ _ _ _ _ _ x0 x1 x2 n1 n2 n3 a1 d1 a2 d2 a3 d3 A1 D1 A2 D2 A3 D3 c1 e1 c2 e2 c3 e3 w s1 s2 s3 r1 q1 r2 q2 r3 q3

end Go.Proofs.YtdmoibphidipeaaGreatDoor
