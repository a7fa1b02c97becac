/- A number's text, there and back: the document's own. -/
import Derived.Test.YtchfbpgbojnakaaDoorZFhX
import Derived.Test.YtchfbpgbojnakaaDoorZWrY
import Derived.Test.YtchfbpgbojnakaaDoorZWrF
import Derived.Test.YtchfbpgbojnakaaDoorZWrG
namespace Go.Proofs.YtchfbpgbojnakaaDoor
open Go.RowKit Num

theorem wv_fig {N : Int} {x : List Nat} (h : val 4294967296 x = N.natAbs) : wv (decide (N < 0)) x = N := by
  unfold wv
  by_cases h0 : N < 0
  · rw [decide_eq_true h0, if_pos rfl, h]; omega
  · rw [decide_eq_false h0, if_neg (by simp), h]; omega
theorem short_of {x : List Nat} {N : Int} (hn : Norm 4294967296 x) (h : val 4294967296 x = N.natAbs) (hs : N.natAbs < 4294967296 ^ 3) : x.length ≤ 3 :=
  hn.2.length_le (b := 4294967296) (n := 3) (by omega) (by rw [h]; exact hs)

set_option maxRecDepth 10000 in
set_option maxHeartbeats 1600000 in
theorem ref7_Num (n : Int) (hn1 : -9223372036854775808 ≤ n) (hn2 : n ≤ 9223372036854775807) (w : World) :
    Calls Tryd.prog 30 #[.int .i64 n] w fun e w' => e = .returned (.string ⟨(wtext n).toArray⟩) ∧ Below w.heap.size w w' := by
  have c1 : Calls Tryd.prog 36 #[.int .i64 n] w (fun e w' => ∃ A xs c, e = .returned (.agg #[.bool (decide (n < 0)), .slice A xs.length c]) ∧ xs.length ≤ 3 ∧ Dg 4294967296 xs ∧ wv (decide (n < 0)) xs = n ∧ Rd w' (fun g => g < w'.heap.size) .u32 A xs ∧ Below w.heap.size w w') :=
    (ref2_Of n hn1 hn2 w).mono fun e w' ⟨A, xs, c, h1, _, h3, h4, h5, h6⟩ => ⟨A, xs, c, h1, short_of h3 h4 (by omega), h3.1, wv_fig h4, h5, h6⟩
  have C1 := Lib.hid c1
  have C2 := Lib.hid (fun (V : World) (xs : List Nat) (A : Option Addr) (c : Nat) (h : Rd V (fun g => g < V.heap.size) .u32 A xs) (hl : xs.length ≤ 3) (hd : Dg 4294967296 xs) => ref2_Text (decide (n < 0)) xs A c V h (by omega) hd)
  clear c1
  obtain ⟨s, hs⟩ : ∃ s, decide (n < 0) = s := ⟨_, rfl⟩
  rw [hs] at C1 C2
  have HS := Lib.hid hs
  clear hs
  go_enter Tryd.func30, Tryd.ntmps30
  go_wp2_with first
    | (go_at_call 36; with_reducible refine Calls.mono C1.out ?_; rintro e w1 ⟨A, xs, c, rfl, hl, hd, hw, hr, b1⟩; replace hw := Lib.hid hw)
    | (go_at_call 35; with_reducible refine Calls.mono (C2.out w1 xs A c hr hl hd) ?_; rintro e w2 ⟨rfl, b2⟩)
  go_ret
  exact ⟨by rw [hw.out]; rfl, b1.trans (b2.mono b1.size)⟩

end Go.Proofs.YtchfbpgbojnakaaDoor
