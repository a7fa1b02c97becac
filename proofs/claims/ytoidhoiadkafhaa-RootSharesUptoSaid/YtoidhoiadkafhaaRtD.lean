/- What the program's own take answers: what the foreseen divisions leave. -/
import Derived.Test.YtoidhoiadkafhaaRtC
import Derived.Deep.RegionHeld3
namespace Go.Proofs.Ytoidhoiadkafhaa
open Go.RowKit Num

/-- two numbers -/
def GivesTwo (N M : Nat) (w : World) (e : Ending) (w' : World) : Prop :=
  ∃ A x c A' y c', e = .returned (.tuple #[.slice A x.length c, .slice A' y.length c']) ∧ x.length ≤ c ∧ y.length ≤ c' ∧ Norm 4294967296 x ∧ Norm 4294967296 y ∧ val 4294967296 x = N ∧ val 4294967296 y = M ∧
    Rd w' (fun g => g < w'.heap.size) .u32 A x ∧ Rd w' (fun g => g < w'.heap.size) .u32 A' y ∧ Below w.heap.size w w'

theorem below_next {B : Nat} {W V w' : World} (K : Below B W V) (hB : B ≤ W.heap.size) (b : Below V.heap.size V w') : Below B W w' := K.trans (b.mono (Nat.le_trans hB K.size))
theorem cells4u {W V : World} {g : Nat} {t : TypeId} {a0 a1 a2 a3 a4 : Value} (k : Blk W g t [a0, a1, a2, a3, a4]) (hb : Below W.heap.size W V) :
    V.cell? ⟨g, 0, none⟩ = some a0 ∧ V.cell? ⟨g, 1, none⟩ = some a1 ∧ V.cell? ⟨g, 2, none⟩ = some a2 ∧ V.cell? ⟨g, 3, none⟩ = some a3 := by
  have k' := k.below hb k.lt
  exact ⟨k'.cell 0 rfl, k'.cell 1 rfl, k'.cell 2 rfl, k'.cell 3 rfl⟩

set_option maxHeartbeats 1600000 in
theorem root_take (a b : List Nat) (A A' : Option Addr) (ca cb f0 f1 s0 s1 X1 X2 : Nat) (ev : Bool) (w : World) (h : Rd w (fun g => g < w.heap.size) .u32 A a) (h' : Rd w (fun g => g < w.heap.size) .u32 A' b) (hl : a.length ≤ 1073741824) (hl' : b.length ≤ 1073741824) (ha : Dg 4294967296 a) (hb : Dg 4294967296 b)
    (hf0 : f0 < 4294967296) (hf1 : f1 < 4294967296) (hs0 : s0 < 4294967296) (hs1 : s1 < 4294967296)
    (hX : if ev then X1 + val 4294967296 b * f1 = val 4294967296 a * f0 ∧ X2 + val 4294967296 a * s0 = val 4294967296 b * s1 else X1 + val 4294967296 a * f0 = val 4294967296 b * f1 ∧ X2 + val 4294967296 b * s1 = val 4294967296 a * s0)
    (h1 : X1 < 4294967296 ^ (min a.length b.length)) (h2 : X2 < 4294967296 ^ (min a.length b.length)) :
    Calls Try.prog 58 #[.agg #[.int .u64 f0, .int .u64 f1, .int .u64 s0, .int .u64 s1, .bool ev], .slice A a.length ca, .slice A' b.length cb] w (GivesTwo X1 X2 w) := by
  have B0 := below_one w (.cells (lie f0 f1 s0 s1 ev).toArray 60)
  have k0 := Blk.new w 60 (lie f0 f1 s0 s1 ev)
  cases ev with
  | true =>
    obtain ⟨hX1, hX2⟩ := hX
    have c1 := fun (V : World) (hV : Below w.heap.size w V) => root_less a b A A' ca cb f0 f1 X1 V (h.on hV) (h'.on hV) hl ha hb hf0 hf1 hX1 h1
    have c2 := fun (V : World) (hV : Below w.heap.size w V) => root_less b a A' A cb ca s1 s0 X2 V (h'.on hV) (h.on hV) hl' hb ha hs1 hs0 hX2 (by rw [Nat.min_comm]; exact h2)
    have C1 := Lib.hid c1
    have C2 := Lib.hid c2
    clear c1 c2 hX1 hX2 h1 h2
    obtain ⟨W, hW⟩ : ∃ W, w.alloc (.cells (lie f0 f1 s0 s1 true).toArray 60) = W := ⟨_, rfl⟩
    have hW' : w.alloc (Obj.cells #[Value.int IntKind.u64 f0, Value.int IntKind.u64 f1, Value.int IntKind.u64 s0, Value.int IntKind.u64 s1, Value.bool true] 60) = W := hW
    rw [hW] at B0 k0
    have z0 := k0.cell 0 rfl
    have z1 := k0.cell 1 rfl
    have z2 := k0.cell 2 rfl
    have z3 := k0.cell 3 rfl
    have z4 := k0.cell 4 rfl
    have K0 : Below W.heap.size W W.drew := below_drewN (Below.refl _ _) 1
    have HB := Lib.hid (fun (V : World) (hV : Below W.heap.size W V) => (B0.trans (hV.mono B0.size) : Below w.heap.size w V))
    have hlt := k0.lt
    have e4 : (w.alloc (Obj.cells #[Value.int IntKind.u64 f0, Value.int IntKind.u64 f1, Value.int IntKind.u64 s0, Value.int IntKind.u64 s1, Value.bool true] 60)).cell? ⟨w.heap.size, 4, none⟩ = some (.bool true) := by rw [hW']; exact z4
    go_enter Try.func58, Try.ntmps58
    go_wp2_with fail
    try rw [hW']
    clear hW hW' e4
    go_region_held3 (fun w' => w'.cell? ⟨w.heap.size, 0, none⟩ = some (.int .u64 (f0 : Int)) ∧ w'.cell? ⟨w.heap.size, 1, none⟩ = some (.int .u64 (f1 : Int)) ∧ w'.cell? ⟨w.heap.size, 2, none⟩ = some (.int .u64 (s0 : Int)) ∧ w'.cell? ⟨w.heap.size, 3, none⟩ = some (.int .u64 (s1 : Int)))
      (first | exact cells4u k0 (below_drewN (Below.refl _ _) 1) | exact cells4u k0 K1 | exact cells4u k0 K2 | go_keep)
      ((first
        | (go_at_call 70; (with_reducible refine Calls.mono (C1.out _ (HB.out _ K0)) ?_); rintro e w1 ⟨A1, xs, d1, rfl, hd1, -, hn1, hv1, hr1, b1⟩; have K1 := below_next K0 (Nat.le_refl _) b1)
        | (go_at_call 70; (with_reducible refine Calls.mono (C2.out _ (HB.out _ K1)) ?_); rintro e w2 ⟨A2, ys, d2, rfl, hd2, -, hn2, hv2, hr2, b2⟩; have K2 := below_next K1 (Nat.le_refl _) b2)))
    have HN1 := Lib.hid hn1
    have HN2 := Lib.hid hn2
    have HV1 := Lib.hid hv1
    have HV2 := Lib.hid hv2
    clear hn1 hn2 hv1 hv2 C1 C2
    go_wp2_with fail
    go_ret2
    exact ⟨A1, xs, d1, A2, ys, d2, rfl, hd1, hd2, HN1.out, HN2.out, HV1.out, HV2.out, hr1.on b2, hr2, HB.out _ K2⟩
  | false =>
    obtain ⟨hX1, hX2⟩ := hX
    have c1 := fun (V : World) (hV : Below w.heap.size w V) => root_less b a A' A cb ca f1 f0 X1 V (h'.on hV) (h.on hV) hl' hb ha hf1 hf0 hX1 (by rw [Nat.min_comm]; exact h1)
    have c2 := fun (V : World) (hV : Below w.heap.size w V) => root_less a b A A' ca cb s0 s1 X2 V (h.on hV) (h'.on hV) hl ha hb hs0 hs1 hX2 h2
    have C1 := Lib.hid c1
    have C2 := Lib.hid c2
    clear c1 c2 hX1 hX2 h1 h2
    obtain ⟨W, hW⟩ : ∃ W, w.alloc (.cells (lie f0 f1 s0 s1 false).toArray 60) = W := ⟨_, rfl⟩
    have hW' : w.alloc (Obj.cells #[Value.int IntKind.u64 f0, Value.int IntKind.u64 f1, Value.int IntKind.u64 s0, Value.int IntKind.u64 s1, Value.bool false] 60) = W := hW
    rw [hW] at B0 k0
    have z0 := k0.cell 0 rfl
    have z1 := k0.cell 1 rfl
    have z2 := k0.cell 2 rfl
    have z3 := k0.cell 3 rfl
    have z4 := k0.cell 4 rfl
    have K0 : Below W.heap.size W W.drew := below_drewN (Below.refl _ _) 1
    have HB := Lib.hid (fun (V : World) (hV : Below W.heap.size W V) => (B0.trans (hV.mono B0.size) : Below w.heap.size w V))
    have hlt := k0.lt
    have e4 : (w.alloc (Obj.cells #[Value.int IntKind.u64 f0, Value.int IntKind.u64 f1, Value.int IntKind.u64 s0, Value.int IntKind.u64 s1, Value.bool false] 60)).cell? ⟨w.heap.size, 4, none⟩ = some (.bool false) := by rw [hW']; exact z4
    go_enter Try.func58, Try.ntmps58
    go_wp2_with fail
    try rw [hW']
    clear hW hW' e4
    go_region_held3 (fun w' => w'.cell? ⟨w.heap.size, 0, none⟩ = some (.int .u64 (f0 : Int)) ∧ w'.cell? ⟨w.heap.size, 1, none⟩ = some (.int .u64 (f1 : Int)) ∧ w'.cell? ⟨w.heap.size, 2, none⟩ = some (.int .u64 (s0 : Int)) ∧ w'.cell? ⟨w.heap.size, 3, none⟩ = some (.int .u64 (s1 : Int)))
      (first | exact cells4u k0 (below_drewN (Below.refl _ _) 1) | exact cells4u k0 K1 | exact cells4u k0 K2 | go_keep)
      ((first
        | (go_at_call 70; (with_reducible refine Calls.mono (C1.out _ (HB.out _ K0)) ?_); rintro e w1 ⟨A1, xs, d1, rfl, hd1, -, hn1, hv1, hr1, b1⟩; have K1 := below_next K0 (Nat.le_refl _) b1)
        | (go_at_call 70; (with_reducible refine Calls.mono (C2.out _ (HB.out _ K1)) ?_); rintro e w2 ⟨A2, ys, d2, rfl, hd2, -, hn2, hv2, hr2, b2⟩; have K2 := below_next K1 (Nat.le_refl _) b2)))
    have HN1 := Lib.hid hn1
    have HN2 := Lib.hid hn2
    have HV1 := Lib.hid hv1
    have HV2 := Lib.hid hv2
    clear hn1 hn2 hv1 hv2 C1 C2
    go_wp2_with fail
    go_ret2
    exact ⟨A1, xs, d1, A2, ys, d2, rfl, hd1, hd2, HN1.out, HN2.out, HV1.out, HV2.out, hr1.on b2, hr2, HB.out _ K2⟩
end Go.Proofs.Ytoidhoiadkafhaa
