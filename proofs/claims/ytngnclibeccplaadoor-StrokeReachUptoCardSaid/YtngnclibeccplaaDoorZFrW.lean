/- Fractions, the document's own: what Floor answers. -/
import Derived.Test.YtngnclibeccplaaDoorZOaE
import Derived.Test.YtngnclibeccplaaDoorZWhX
import Derived.Deep.CutRange
import Derived.Test.YtngnclibeccplaaDoorZWrY
namespace Go.Proofs.YtngnclibeccplaaDoor
open Go.RowKit Num

theorem Blk.on {W V : World} {g : Nat} {t : TypeId} {vs : List Value} (k : Blk W g t vs) (b : Below W.heap.size W V) : Blk V g t vs := k.below b k.lt
theorem Blk.pair {W : World} {g : Nat} {t : TypeId} {a0 a1 : Value} (k : Blk W g t [a0, a1]) (u0 u1 : Value) : Blk ((W.setCell ⟨g, 0, none⟩ u0).setCell ⟨g, 1, none⟩ u1) g t [u0, u1] := (k.set 0 u0).set 1 u1
theorem Blk.drw {W : World} {g : Nat} {t : TypeId} {vs : List Value} (k : Blk W g t vs) : Blk W.drew g t vs := k
theorem Blk.facts2 {w : World} {g : Nat} {t : TypeId} {a0 a1 : Value} (h : Blk w g t [a0, a1]) : w.cell? ⟨g, 0, none⟩ = some a0 ∧ w.cell? ⟨g, 1, none⟩ = some a1 ∧ w.frozen? ⟨g, 0, none⟩ = false ∧ w.frozen? ⟨g, 1, none⟩ = false :=
  ⟨h.cell 0 rfl, h.cell 1 rfl, h.frozen 0, h.frozen 1⟩
/-- what was allotted before a call lies there still behind it -/
theorem got1 {W v : World} {v0 v1 : Value} {t : TypeId} (b : Below (W.alloc (.cells #[v0, v1] t)).heap.size (W.alloc (.cells #[v0, v1] t)) v) : Blk v W.heap.size t [v0, v1] ∧ W.heap.size < v.heap.size := by
  have k := (Blk.new W t [v0, v1]).on b
  exact ⟨k, k.lt⟩
theorem got2 {W v : World} {v0 v1 u0 u1 : Value} {t t' : TypeId} (b : Below ((W.alloc (.cells #[v0, v1] t)).alloc (.cells #[u0, u1] t')).heap.size ((W.alloc (.cells #[v0, v1] t)).alloc (.cells #[u0, u1] t')) v) : (Blk v W.heap.size t [v0, v1] ∧ W.heap.size + 1 < v.heap.size) ∧ Blk v (W.heap.size + 1) t' [u0, u1] := by
  have k := ((Blk.new W t [v0, v1]).alloc (.cells #[u0, u1] t')).on b
  have k' := (Blk.at_new (W.alloc (.cells #[v0, v1] t)) t' [u0, u1] (g := W.heap.size + 1) (by simp)).on b
  exact ⟨⟨k, k'.lt⟩, k'⟩
theorem got1d {W v : World} {v0 v1 : Value} {t : TypeId} (b : Below (W.alloc (.cells #[v0, v1] t)).drew.heap.size (W.alloc (.cells #[v0, v1] t)).drew v) : Blk v W.heap.size t [v0, v1] ∧ W.heap.size < v.heap.size := got1 (W := W.drew) b
theorem got2d {W v : World} {v0 v1 u0 u1 : Value} {t t' : TypeId} (b : Below ((W.alloc (.cells #[v0, v1] t)).alloc (.cells #[u0, u1] t')).drew.heap.size ((W.alloc (.cells #[v0, v1] t)).alloc (.cells #[u0, u1] t')).drew v) : (Blk v W.heap.size t [v0, v1] ∧ W.heap.size + 1 < v.heap.size) ∧ Blk v (W.heap.size + 1) t' [u0, u1] := got2 (W := W.drew) b
theorem Num.Rd.far2 {w : World} {g : Nat} {t : TypeId} {x : Bool} {p : Option Addr} {n m : Nat} {k : IntKind} {A : Option Addr} {xs : List Nat} (h : Rd w (fun g => g < w.heap.size) k A xs) (f : Blk w g t [.bool x, .slice p n m]) (u0 u1 : Value) : Rd ((w.setCell ⟨g, 0, none⟩ u0).setCell ⟨g, 1, none⟩ u1) (fun b => b < ((w.setCell ⟨g, 0, none⟩ u0).setCell ⟨g, 1, none⟩ u1).heap.size) k A xs := fun hn => by
  obtain ⟨b, o, e, hb, hc⟩ := h hn
  have hne : b ≠ g := by
    rintro rfl
    have h0 := hc 0 hn
    rw [cell_of_row _ _ _ _ _ _ f] at h0
    match o, h0 with
    | 0, h0 => simp at h0
    | 1, h0 => simp at h0
    | o + 2, h0 => simp at h0
  refine ⟨b, o, e, by simpa [World.setCell] using hb, fun j hj => ?_⟩
  rw [← hc j hj]
  exact World.cell?_of_block ((Below.heap_setCell _ _ u1 b hne).trans (Below.heap_setCell _ _ u0 b hne))
/-- both numbers stored where they lie: the first one is read -/
theorem floor_end {w Z : World} {g3 g4 gR : Nat} {t tR : TypeId} {b3 b4 : Bool} {p3 p4 : Option Addr} {n3 m3 n4 m4 : Nat} {vR : List Value} {A : Option Addr} {q : List Nat} (k3 : Blk Z g3 t [.bool b3, .slice p3 n3 m3]) (k4 : Blk Z g4 t [.bool b4, .slice p4 n4 m4]) (kR : Blk Z gR tR vR) (hne : g3 ≠ g4) (h3 : gR ≠ g3) (h4 : gR ≠ g4)
    (r : Rd Z (fun g => g < Z.heap.size) .u32 A q) (b : Below w.heap.size w Z) (e3 : w.heap.size ≤ g3) (e4 : w.heap.size ≤ g4) (u0 u1 y0 y1 : Value) {E : World} (hE : ((((Z.setCell ⟨g3, 0, none⟩ u0).setCell ⟨g3, 1, none⟩ u1).setCell ⟨g4, 0, none⟩ y0).setCell ⟨g4, 1, none⟩ y1) = E) :
    E.cell? ⟨g3, 0, none⟩ = some u0 ∧ E.cell? ⟨g3, 1, none⟩ = some u1 ∧ Rd E (fun g => g < E.heap.size) .u32 A q ∧ Blk E gR tR vR ∧ Below w.heap.size w E ∧ gR ≠ g3 := by
  subst hE
  have k3' := (k3.set 0 u0).set 1 u1
  have k4' := (k4.far (p := ⟨g3, 0, none⟩) (Ne.symm hne) u0).far (p := ⟨g3, 1, none⟩) (Ne.symm hne) u1
  have k3'' := (k3'.far (p := ⟨g4, 0, none⟩) hne y0).far (p := ⟨g4, 1, none⟩) hne y1
  exact ⟨k3''.cell 0 rfl, k3''.cell 1 rfl, (r.far2 k3 u0 u1).far2 k4' y0 y1, (((kR.far (p := ⟨g3, 0, none⟩) h3 u0).far (p := ⟨g3, 1, none⟩) h3 u1).far (p := ⟨g4, 0, none⟩) h4 y0).far (p := ⟨g4, 1, none⟩) h4 y1,
    (((b.setCell e3 _).setCell e3 _).setCell e4 _).setCell e4 _, h3⟩

end Go.Proofs.YtngnclibeccplaaDoor
/- Fractions: what the program's own turned, plus and minus answer. -/

namespace Go.Proofs.YtngnclibeccplaaDoor
open Go.RowKit Num

/-- 1 by P by Q: its upper part -/
def turnN (P : Int) (Q : Nat) : Int := if P < 0 then - (Q : Int) else Q
theorem turn_sign {n : Bool} {a d : List Nat} {P : Int} {Q : Nat} (hQ : 0 < Q) (hd : 0 < val 4294967296 d) (h : wv n a * (Q : Int) = P * (val 4294967296 d : Int)) :
    val 4294967296 a * Q = P.natAbs * val 4294967296 d ∧ (P ≠ 0 → 0 < val 4294967296 a ∧ wv n d = (if P < 0 then - (val 4294967296 d : Int) else val 4294967296 d)) := by
  have e := congrArg Int.natAbs h
  rw [Int.natAbs_mul, Int.natAbs_mul, Int.natAbs_natCast, Int.natAbs_natCast, wv_abs] at e
  refine ⟨e, fun hP => ?_⟩
  have hp : 0 < P.natAbs * val 4294967296 d := Nat.mul_pos (by omega) hd
  have ha : 0 < val 4294967296 a := by
    rcases Nat.eq_zero_or_pos (val 4294967296 a) with h0 | h0
    · rw [h0, Nat.zero_mul] at e; omega
    · exact h0
  refine ⟨ha, ?_⟩
  have q1 : (0 : Int) < (val 4294967296 a : Int) * Q := Int.mul_pos (by omega) (by omega)
  cases n
  · rw [wv_false] at h ⊢
    by_cases hn : P < 0
    · have := Int.mul_neg_of_neg_of_pos hn (show (0 : Int) < (val 4294967296 d : Int) by omega)
      omega
    · rw [if_neg hn]
  · rw [wv_true] at h ⊢
    by_cases hn : P < 0
    · rw [if_pos hn]
    · have := Int.mul_nonneg (show 0 ≤ P by omega) (show (0 : Int) ≤ (val 4294967296 d : Int) by omega)
      rw [Int.neg_mul] at h
      omega

theorem cmpI_ne {a b : Nat} (h : ¬ a = b) : ¬ cmpI a b = 0 := by
  unfold cmpI
  split
  · omega
  · split
    · omega
    · omega
theorem plus_same {x x' P P' y Q Q' : Int} (h : x * Q = P * y) (g : x' * Q' = P' * y) : (x + x') * (Q * Q') = (P * Q' + P' * Q) * y := by
  rw [Int.add_mul, show x * (Q * Q') = (x * Q) * Q' by ac_rfl, show x' * (Q * Q') = (x' * Q') * Q by ac_rfl, h, g, Int.add_mul]
  ac_rfl
theorem plus_other {x x' P P' y y' u u' g Q Q' : Int} (h : x * Q = P * y) (k : x' * Q' = P' * y') (e : y = u * g) (e' : y' = u' * g) : (x * u' + x' * u) * (Q * Q') = (P * Q' + P' * Q) * (y * u') := by
  rw [Int.add_mul, show x * u' * (Q * Q') = (x * Q) * (u' * Q') by ac_rfl, show x' * u * (Q * Q') = (x' * Q') * (u * Q) by ac_rfl, h, k, Int.add_mul, e, e']
  congr 1 <;> ac_rfl

/-- a whole number stored where it lies -/
theorem box_end {W v : World} {g : Nat} {t : TypeId} (k : Blk v g t [.bool false, .slice none 0 0]) (hg : W.heap.size ≤ g) (B : Below W.heap.size W v) (u0 u1 : Value) {X Y : Option Addr} {x y : List Nat} (r : Rd v (fun g => g < v.heap.size) .u32 X x) (q : Rd v (fun g => g < v.heap.size) .u32 Y y) :
    Blk ((v.setCell ⟨g, 0, none⟩ u0).setCell ⟨g, 1, none⟩ u1) g t [u0, u1] ∧ W.heap.size ≤ g ∧ Rd ((v.setCell ⟨g, 0, none⟩ u0).setCell ⟨g, 1, none⟩ u1) (fun b => b < ((v.setCell ⟨g, 0, none⟩ u0).setCell ⟨g, 1, none⟩ u1).heap.size) .u32 X x ∧ Rd ((v.setCell ⟨g, 0, none⟩ u0).setCell ⟨g, 1, none⟩ u1) (fun b => b < ((v.setCell ⟨g, 0, none⟩ u0).setCell ⟨g, 1, none⟩ u1).heap.size) .u32 Y y ∧ Below W.heap.size W ((v.setCell ⟨g, 0, none⟩ u0).setCell ⟨g, 1, none⟩ u1) :=
  ⟨k.pair _ _, hg, r.far2 k _ _, q.far2 k _ _, (B.setCell hg _).setCell hg _⟩

end Go.Proofs.YtngnclibeccplaaDoor
