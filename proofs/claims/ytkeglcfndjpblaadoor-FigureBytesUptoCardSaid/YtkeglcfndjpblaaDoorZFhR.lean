/- The walk of FigureBytes. -/
import Derived.Test.YtkeglcfndjpblaaDoorZFhZ
namespace Go.Proofs.YtkeglcfndjpblaaDoor
open Go.RowKit Num

/-- what a reading of figures comes to: bytes, or none -/
def UnGives (bs : By) (w : World) (e : Ending) (w' : World) : Prop := Below w.heap.size w w' ∧
  ((∃ (b : By) (p : Option Addr) (cap : Nat), unhexOf bs = some b ∧ e = .returned (.tuple #[.slice p b.length cap, .int .i64 0]) ∧ RdV w' w'.heap.size p (bcells b)) ∨
    (unhexOf bs = none ∧ e = .returned (.tuple #[.slice none 0 0, .int .i64 3])))
/-- the same in one shape: an error's number and bytes -/
theorem unGives_one {bs : By} {w : World} {e : Ending} {w' : World} (h : UnGives bs w e w') : Below w.heap.size w w' ∧ ∃ (p : Option Addr) (cap : Nat), e = .returned (.tuple #[.slice p ((unhexOf bs).getD []).length cap, .int .i64 (if unhexOf bs = none then 3 else 0)]) ∧ RdV w' w'.heap.size p (bcells ((unhexOf bs).getD [])) := by
  obtain ⟨h0, ⟨b, p, cap, h1, h2, h3⟩ | ⟨h1, h2⟩⟩ := h
  · exact ⟨h0, p, cap, by rw [h1, h2]; simp, by rw [h1]; exact h3⟩
  · exact ⟨h0, none, 0, by rw [h1, h2]; simp, by rw [h1]; exact RdV.nil _ _ _⟩

set_option maxRecDepth 10000 in
set_option maxHeartbeats 3200000 in
theorem walk_FigureBytes (A : Option Addr) (c : Nat) (b : By) (t : ByteArray) (w : World) (hr : RdV w w.heap.size A (bcells b)) (hb : b.length ≤ 1048576) (ht : t.size ≤ 1048576) (hR : Rng w) (hF : Figs w) :
    Calls Tryd.prog 5 #[.slice A b.length c, .string t] w fun e w' => e = .returned (.bool true) ∧ Below w.heap.size w w' := by
  obtain ⟨y, hy⟩ : ∃ y, (unhexOf t.data.toList).getD [] = y := ⟨_, rfl⟩
  obtain ⟨k, hk⟩ : ∃ k : Int, (if unhexOf t.data.toList = none then 3 else 0) = k := ⟨_, rfl⟩
  obtain ⟨s, hs⟩ : ∃ s, str (hexOf b) = s := ⟨_, rfl⟩
  have hss : s.size = 2 * b.length := by rw [← hs, ← str_len, str_back, hexOf_length]
  have CU := Lib.hid (fun (V : World) (h : Figs V) => (show Calls Tryd.prog 15 #[.string t] V (fun e w' => Below V.heap.size V w' ∧ ∃ (p : Option Addr) (cap : Nat), e = .returned (.tuple #[.slice p y.length cap, .int .i64 k]) ∧ RdV w' w'.heap.size p (bcells y)) from
    (fig_Unhex t (by omega) V h).mono fun e w' h => by have := unGives_one h; rwa [hy, hk] at this))
  have CV := Lib.hid (fun (V : World) => (show Calls Tryd.prog 16 #[.string t] V (fun e w' => Below V.heap.size V w' ∧ ∃ (p : Option Addr) (cap : Nat), e = .returned (.tuple #[.slice p y.length cap, .int .i64 k]) ∧ RdV w' w'.heap.size p (bcells y)) from
    (ref7_Unhex t (by omega) V).mono fun e w' h => by have := unGives_one h; rwa [hy, hk] at this))
  have CB := Lib.hid (fun (V : World) (h : Figs V) => (show Calls Tryd.prog 15 #[.string s] V (fun e w' => Below V.heap.size V w' ∧ ∃ (p : Option Addr) (cap : Nat), e = .returned (.tuple #[.slice p b.length cap, .int .i64 0]) ∧ RdV w' w'.heap.size p (bcells b)) from
    (fig_Unhex s (by omega) V h).mono fun e w' h => by
      have := unGives_one h
      rw [← hs, str_back, unhexOf_hex] at this
      simpa using this))
  have CH := Lib.hid (fun (V : World) (h : RdV V V.heap.size A (bcells b)) (h2 : Figs V) => (show Calls Tryd.prog 17 #[.slice A b.length c] V (fun e w' => e = .returned (.string s) ∧ Below V.heap.size V w') from by
    have := fig_Hex A c b V h (by omega) h2
    rwa [hs] at this))
  have CI := Lib.hid (fun (V : World) (h : RdV V V.heap.size A (bcells b)) => (show Calls Tryd.prog 18 #[.slice A b.length c] V (fun e w' => e = .returned (.string s) ∧ Below V.heap.size V w') from by
    have := ref7_Hex A c b V h (by omega)
    rwa [hs] at this))
  have HR := Lib.hid hr
  have HB := Lib.hid (And.intro hR hF)
  clear hs hss hy hk hR hF hr
  go_enter Tryd.func5, Tryd.ntmps5
  go_wp2_with first
    | (go_at_call 15; with_reducible refine Calls.mono (CU.out w HB.out.2) ?_; rintro e w1 ⟨b1, p1, c1, rfl, r1⟩
       replace r1 := Lib.hid r1)
    | (go_at_call 16; with_reducible refine Calls.mono (CV.out w1) ?_; rintro e w2 ⟨b2, p2, c2, rfl, r2⟩
       replace r2 := Lib.hid r2
       have K2 := b1.trans (b2.mono b1.size))
    | (go_at_call 17; with_reducible refine Calls.mono (CH.out w2 (HR.out.on K2) (HB.out.2.on K2)) ?_; rintro e w3 ⟨rfl, b3⟩
       have K3 := K2.trans (b3.mono K2.size))
    | (go_at_call 15; with_reducible refine Calls.mono (CB.out w3 (HB.out.2.on K3)) ?_; rintro e w4 ⟨b4, p4, c4, rfl, r4⟩
       replace r4 := Lib.hid r4
       have K4 := K3.trans (b4.mono K3.size))
    | (go_at_call 17; with_reducible refine Calls.mono (CH.out w4 (HR.out.on K4) (HB.out.2.on K4)) ?_; rintro e w5 ⟨rfl, b5⟩
       have K5 := K4.trans (b5.mono K4.size))
    | (go_at_call 18; with_reducible refine Calls.mono (CI.out w5 (HR.out.on K5)) ?_; rintro e w6 ⟨rfl, b6⟩
       have K6 := K5.trans (b6.mono K5.size)
       have L5 := b5.trans (b6.mono b5.size)
       have L4 := b3.trans ((b4.trans (L5.mono b4.size)).mono b3.size)
       have v1 := conv_by (((r1.out.on b2).on L4)) c1
       have v2 := conv_by (r2.out.on L4) c2
       have v4 := conv_by (r4.out.on L5) c4
       have v0 := conv_by (HR.out.on K6) c)
    | (go_at_call 10; with_reducible refine Calls.mono (law7_lives w6 (HB.out.1.on K6) (HB.out.2.on K6)) ?_; rintro e w7 ⟨rfl, b7⟩
       have K7 := K6.trans (b7.mono K6.size))
  go_ret
  exact ⟨rfl, K7⟩
end Go.Proofs.YtkeglcfndjpblaaDoor
