/- The walk of ColourParts. Written by gen/gencl.py. -/
import Derived.Test.YtaiinglogpbfjaaCoL
import Derived.Laws.BitsLemmas
namespace Go.Proofs.Ytaiinglogpbfjaa
open Go.RowKit

/-- the lowest eight bits of an int -/
theorem i64_and255 (n : Int) : bits .and .i64 n 255 = n % 256 := by
  have h255 : (BitVec.ofInt 64 255).toNat = 2 ^ 8 - 1 := by decide
  have key : (BitVec.ofInt 64 n &&& BitVec.ofInt 64 255).toNat = (n % ((2 ^ 64 : Nat) : Int)).toNat % 2 ^ 8 := by
    rw [BitVec.toNat_and, BitVec.toNat_ofInt, h255, Nat.and_two_pow_sub_one_eq_mod]
  show IntKind.i64.wrap ((BitVec.ofInt 64 n &&& BitVec.ofInt 64 255).toNat : Nat) = n % 256
  rw [key, IntKind.wrap_i64]
  omega

set_option maxRecDepth 10000 in
set_option maxHeartbeats 6400000 in
theorem walk_ColourParts (c d : Col) (n : Int) (hn1 : -9223372036854775808 ≤ n) (hn2 : n ≤ 9223372036854775807) (w : World) : Calls Try.prog 3 #[colV c, colV d, .int .i64 n] w fun e w' => e = .returned (.bool true) ∧ Below w.heap.size w w' := by
  obtain ⟨W, hW, k1, k2, B0, hz⟩ := two_boxes c d w
  have hP := parts_of k1 k2 B0
  have hP' := hP
  obtain ⟨⟨⟨⟨p0, p1, p2, p3⟩, q0, q1, q2, q3⟩, hl⟩, -⟩ := hP'
  have HP := Lib.hid hP
  clear hP k1 k2 B0 hz
  obtain ⟨m, hm⟩ : ∃ m : UInt8, (m.toNat : Int) = n % 256 := ⟨UInt8.ofNat (n % 256).toNat, by simp only [UInt8.toNat_ofNat']; omega⟩
  have ha : bits BinOp.and IntKind.i64 n 255 = (m.toNat : Int) := by rw [i64_and255, hm]
  have hml := m.toNat_lt
  have hu : IntKind.u8.wrap (m.toNat : Int) = (m.toNat : Int) := IntWalk.u8_in _ (by omega)
  have C0 := Lib.hid (fun V => col_Part n hn1 hn2 V)
  have C1 := Lib.hid (fun V => below8 (ref8_Part n hn1 hn2 V))
  have C2 := Lib.hid (fun V => col_Times c.r d.g V)
  have C3 := Lib.hid (fun V => below8 (ref8_Times c.r d.g V))
  have C4 := Lib.hid (fun V => col_Weigh c V)
  have C5 := Lib.hid (fun V => ref8_Weigh c V)
  have C6 := Lib.hid (fun V => col_May c V)
  have C7 := Lib.hid (fun V => ref8_May c V)
  have C8 := Lib.hid (fun V => col_Fade c m V)
  have C9 := Lib.hid (fun V => ref8_Fade c m V)
  have C10 := Lib.hid (fun V => col_Mix c d m V)
  have C11 := Lib.hid (fun V => ref8_Mix c d m V)
  obtain ⟨o1, ho1⟩ : ∃ o, partU n = o := ⟨_, rfl⟩
  obtain ⟨o2, ho2⟩ : ∃ o, timesU c.r d.g = o := ⟨_, rfl⟩
  obtain ⟨o3, ho3⟩ : ∃ o, weighC c = o := ⟨_, rfl⟩
  obtain ⟨o4, ho4⟩ : ∃ o, mayC c = o := ⟨_, rfl⟩
  obtain ⟨o5, ho5⟩ : ∃ o, fadeC c m = o := ⟨_, rfl⟩
  obtain ⟨o6, ho6⟩ : ∃ o, mixC c d m = o := ⟨_, rfl⟩
  rw [ho1] at C0 C1
  rw [ho2] at C2 C3
  rw [ho3] at C4 C5
  rw [ho4] at C6 C7
  rw [ho5] at C8 C9
  rw [ho6] at C10 C11
  obtain ⟨m8, hm8⟩ : ∃ k, m.toNat = k := ⟨_, rfl⟩
  rw [hm8] at C8 C9 C10 C11 ha hu
  clear ho1 ho2 ho3 ho4 ho5 ho6 hm8 hm hml
  unfold colV colCells at *
  go_enter Try.func3, Try.ntmps3
  go_wp2_with fail
  try rw [hW]
  clear hW
  go_region_held3 (fun w' => (((w'.cell? ⟨w.heap.size, 0, none⟩ = some (.int .u8 (c.r.toNat : Int)) ∧ w'.cell? ⟨w.heap.size, 1, none⟩ = some (.int .u8 (c.g.toNat : Int)) ∧ w'.cell? ⟨w.heap.size, 2, none⟩ = some (.int .u8 (c.b.toNat : Int)) ∧ w'.cell? ⟨w.heap.size, 3, none⟩ = some (.int .u8 (c.a.toNat : Int))) ∧ (w'.cell? ⟨w.heap.size + 1, 0, none⟩ = some (.int .u8 (d.r.toNat : Int)) ∧ w'.cell? ⟨w.heap.size + 1, 1, none⟩ = some (.int .u8 (d.g.toNat : Int)) ∧ w'.cell? ⟨w.heap.size + 1, 2, none⟩ = some (.int .u8 (d.b.toNat : Int)) ∧ w'.cell? ⟨w.heap.size + 1, 3, none⟩ = some (.int .u8 (d.a.toNat : Int)))) ∧ w.heap.size + 1 < w'.heap.size) ∧ Below w.heap.size w w')
    (first | (with_reducible exact parts_drew HP.out) | (with_reducible exact HP.out) | (with_reducible exact parts_on (by assumption) b1) | (with_reducible exact parts_drew (by assumption)) | go_keep)
    ((first
      | (go_at_call 6; (with_reducible refine Calls.mono (C0.out _) ?_); rintro e w1 ⟨rfl, b1⟩)
      | (go_at_call 7; (with_reducible refine Calls.mono (C1.out _) ?_); rintro e w1 ⟨rfl, b1⟩)
      | (go_at_call 8; (with_reducible refine Calls.mono (C2.out _) ?_); rintro e w1 ⟨rfl, b1⟩)
      | (go_at_call 9; (with_reducible refine Calls.mono (C3.out _) ?_); rintro e w1 ⟨rfl, b1⟩)
      | (go_at_call 10; (with_reducible refine Calls.mono (C4.out _) ?_); rintro e w1 ⟨rfl, b1⟩)
      | (go_at_call 11; (with_reducible refine Calls.mono (C5.out _) ?_); rintro e w1 ⟨rfl, b1⟩)
      | (go_at_call 12; (with_reducible refine Calls.mono (C6.out _) ?_); rintro e w1 ⟨rfl, b1⟩)
      | (go_at_call 13; (with_reducible refine Calls.mono (C7.out _) ?_); rintro e w1 ⟨rfl, b1⟩)
      | (go_at_call 14; (with_reducible refine Calls.mono (C8.out _) ?_); rintro e w1 ⟨rfl, b1⟩)
      | (go_at_call 15; (with_reducible refine Calls.mono (C9.out _) ?_); rintro e w1 ⟨rfl, b1⟩)
      | (go_at_call 16; (with_reducible refine Calls.mono (C10.out _) ?_); rintro e w1 ⟨rfl, b1⟩)
      | (go_at_call 17; (with_reducible refine Calls.mono (C11.out _) ?_); rintro e w1 ⟨rfl, b1⟩)
      | (go_at_call 18; (with_reducible refine Calls.mono (law8_lives _) ?_); rintro e w1 ⟨rfl, b1⟩)))
  all_goals
    rename_i hHeld
    obtain ⟨-, hB⟩ := hHeld
    go_wp2_with fail
    go_ret
    exact ⟨rfl, hB⟩

end Go.Proofs.Ytaiinglogpbfjaa
