/- The walk of PathWays. -/
import Derived.Test.YtbgjpmijegeeiaaZPvW
namespace Go.Proofs.Ytbgjpmijegeeiaa
open Go.RowKit

set_option maxRecDepth 10000 in
set_option maxHeartbeats 6400000 in
theorem walk_PathWays (V : List Lv) (A : Option Addr) (c : Nat) (w : World) (hV : RdLn w w.heap.size A V) (hl : V.length ≤ 1073741824) (hs : sumP V ≤ 1073741824) :
    Calls Try.prog 4 #[.slice A V.length c] w fun e w' => e = .returned (.bool true) ∧ Below w.heap.size w w' := by
  have cP := path_Segs V A c w hV hl hs
  have cR := fun X (h : Below w.heap.size w X) => ref12_Segs V A c X (hV.on h) hl hs
  have hle : (segsM (Lv.all V)).length ≤ 1073741824 := by
    have h := segsI_le (V := V) (i := V.length) (Nat.le_refl _)
    rw [segsI_all, List.take_length] at h
    omega
  obtain ⟨S, hS⟩ : ∃ S, segsM (Lv.all V) = S := ⟨_, rfl⟩
  obtain ⟨n, hn⟩ : ∃ n, V.length = n := ⟨_, rfl⟩
  rw [hS] at hle
  simp only [hS, hn] at cP cR ⊢
  have cS := fun (q1 q2 : Option Addr) (k1 k2 : Nat) (X : World) h1 h2 => ref12_SameSegs S q1 q2 k1 k2 X h1 h2 (by omega)
  obtain ⟨m, hm⟩ : ∃ m, S.length = m := ⟨_, rfl⟩
  simp only [hm] at cP cR cS
  have CP := Lib.hid cP
  have CR := Lib.hid cR
  have CS := Lib.hid cS
  have C9 := Lib.hid law12_lives
  clear cP cR cS hV hl hs hS hn hm hle
  go_enter Try.func4, Try.ntmps4
  go_wp2_with first
    | (go_at_call 15; (with_reducible refine Calls.mono CP.out ?_); rintro e w1 ⟨⟨q1, k1, rfl, r1⟩, b1⟩
       have G1 := Lib.hid b1
       have R1 := Lib.hid r1
       clear r1 b1)
    | (go_at_call 16; (with_reducible refine Calls.mono (CR.out w1 G1.out) ?_); rintro e w2 ⟨⟨q2, k2, rfl, r2⟩, b2⟩
       have G2 := Lib.hid (G1.out.trans (b2.mono G1.out.size))
       have R2 := Lib.hid (And.intro (R1.out.on b2) r2)
       clear r2 b2)
    | (go_at_call 14; (with_reducible refine Calls.mono (CS.out _ _ _ _ w2 R2.out.1 R2.out.2) ?_); rintro e w3 ⟨rfl, b3⟩
       have G3 := Lib.hid (G2.out.trans (b3.mono G2.out.size))
       clear b3)
    | (go_at_call 13; (with_reducible refine Calls.mono (C9.out w3) ?_); rintro e w4 ⟨rfl, b4⟩
       have G4 := Lib.hid (G3.out.trans (b4.mono G3.out.size))
       clear b4)
  go_ret
  exact ⟨rfl, G4.out⟩
end Go.Proofs.Ytbgjpmijegeeiaa
