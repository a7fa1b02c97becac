/- The walk of PathTraces. -/
import Derived.Test.YtbgjpmijegeeiaaZPvW
import Derived.Test.YtbgjpmijegeeiaaZPtE
import Derived.Test.YtbgjpmijegeeiaaZPtY
namespace Go.Proofs.Ytbgjpmijegeeiaa
open Go.RowKit

set_option maxRecDepth 10000 in
set_option maxHeartbeats 6400000 in
theorem walk_PathTraces (L : List St) (op : Int) (A : Option Addr) (c : Nat) (w : World) (hL : RdV w w.heap.size A (stRow L)) (hl : L.length ≤ 4611686018427387904) :
    Calls Try.prog 3 #[.slice A L.length c, .int .i64 op] w fun e w' => e = .returned (.bool true) ∧ Below w.heap.size w w' := by
  have cT := path_Trace L A c w hL hl
  have cR := fun V (h : Below w.heap.size w V) => ref12_Trace L A c V (hL.on h) hl
  have cC := fun V (h : Below w.heap.size w V) => path_Count L A c V (hL.on h) hl
  have cN := fun V (h : Below w.heap.size w V) => ref12_Count L A c V (hL.on h) hl
  have hS := fun V (h : Lv.all V = traceM L) => trace_sum h
  unfold GivesLn at cT cR
  obtain ⟨T, hT⟩ : ∃ T, traceM L = T := ⟨_, rfl⟩
  obtain ⟨E, hE⟩ : ∃ E, checkM L = E := ⟨_, rfl⟩
  obtain ⟨n, hn⟩ : ∃ n, L.length = n := ⟨_, rfl⟩
  obtain ⟨N, hN⟩ : ∃ N, countM L = N := ⟨_, rfl⟩
  simp only [hT, hE, hn, hN] at cT cR cC cN hS ⊢
  obtain ⟨u, hu⟩ : ∃ u, usesM op = u := ⟨_, rfl⟩
  have cU := fun V => path_Uses op V
  have cX := fun V => ref12_Uses op V
  simp only [hu] at cU cX
  obtain ⟨tl, htl⟩ : ∃ tl, T.length = tl := ⟨_, rfl⟩
  have cM := fun (P Q : List Lv) (hP : Lv.all P = T) (hQ : Lv.all Q = T) (q1 q2 : Option Addr) (k1 k2 : Nat) (X : World) (h1 : RdLn X X.heap.size q1 P) (h2 : RdLn X X.heap.size q2 Q) => show Calls Try.prog 10 #[.slice q1 tl k1, .slice q2 tl k2] X (fun e w' => e = .returned (.bool true) ∧ Below X.heap.size X w') from by
    have e1 : P.length = tl := by rw [← htl, ← hP]; simp [Lv.all]
    have e2 : Q.length = tl := by rw [← htl, ← hQ]; simp [Lv.all]
    have h3 := hS P hP
    have h := ref12_Same P Q (hP.trans hQ.symm) q1 q2 k1 k2 X h1 h2 (by omega) (fun x hx => by have := h3.2.2 x hx; omega)
    rw [e1, e2] at h
    exact h
  simp only [htl] at cT cR
  have CT := Lib.hid cT
  have CR := Lib.hid cR
  have CC := Lib.hid cC
  have CN := Lib.hid cN
  have CU := Lib.hid cU
  have CX := Lib.hid cX
  have CM := Lib.hid cM
  have C9 := Lib.hid law12_lives
  clear cT cR cC cN cU cX cM hS hL hl hT hE hn hN hu htl
  go_enter Try.func3, Try.ntmps3
  go_wp2_with first
    | (go_at_call 6; (with_reducible refine Calls.mono CT.out ?_); rintro e w1 ⟨⟨q1, k1, P, rfl, hP, r1⟩, b1⟩
       have G1 := Lib.hid b1
       have R1 := Lib.hid (And.intro hP r1)
       clear hP r1 b1)
    | (go_at_call 7; (with_reducible refine Calls.mono (CR.out w1 G1.out) ?_); rintro e w2 ⟨⟨q2, k2, Q, rfl, hQ, r2⟩, b2⟩
       have G2 := Lib.hid (G1.out.trans (b2.mono G1.out.size))
       have R2 := Lib.hid (And.intro (R1.out.2.on b2) (And.intro hQ r2))
       clear hQ r2 b2)
    | (go_at_call 8; (with_reducible refine Calls.mono (CC.out w2 G2.out) ?_); rintro e w3 ⟨rfl, b3⟩
       have G3 := Lib.hid (G2.out.trans (b3.mono G2.out.size))
       have R3 := Lib.hid (And.intro (R2.out.1.on b3) (R2.out.2.2.on b3))
       clear b3)
    | (go_at_call 9; (with_reducible refine Calls.mono (CN.out w3 G3.out) ?_); rintro e w4 ⟨rfl, b4⟩
       have G4 := Lib.hid (G3.out.trans (b4.mono G3.out.size))
       have R4 := Lib.hid (And.intro (R3.out.1.on b4) (R3.out.2.on b4))
       clear b4)
    | (go_at_call 10; (with_reducible refine Calls.mono (CM.out P Q R1.out.1 R2.out.2.1 _ _ _ _ w4 R4.out.1 R4.out.2) ?_); rintro e w5 ⟨rfl, b5⟩
       have G5 := Lib.hid (G4.out.trans (b5.mono G4.out.size))
       clear b5)
    | (go_at_call 11; (with_reducible refine Calls.mono (CU.out w5) ?_); rintro e w6 ⟨rfl, rfl⟩)
    | (go_at_call 12; (with_reducible refine Calls.mono (CX.out _) ?_); rintro e w7 ⟨rfl, b7⟩
       have G7 := Lib.hid (G5.out.trans (b7.mono G5.out.size))
       clear b7)
    | (go_at_call 13; (with_reducible refine Calls.mono (C9.out _) ?_); rintro e w8 ⟨rfl, b8⟩
       have G8 := Lib.hid (G7.out.trans (b8.mono G7.out.size))
       clear b8)
  go_ret
  exact ⟨rfl, G8.out⟩
end Go.Proofs.Ytbgjpmijegeeiaa
