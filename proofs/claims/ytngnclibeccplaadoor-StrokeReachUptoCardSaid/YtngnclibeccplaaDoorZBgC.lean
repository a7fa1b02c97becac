/- Curves, the document's own: a fraction of two ints, a point of the way between two, its nearest whole number: by what they are worth. -/
import Derived.Test.YtngnclibeccplaaDoorZOaI
import Derived.Test.YtngnclibeccplaaDoorZOaG
import Derived.Test.YtngnclibeccplaaDoorZOaE
import Derived.Test.YtngnclibeccplaaDoorZOaB
import Derived.Deep.RegionHeld3
namespace Go.Proofs.YtngnclibeccplaaDoor
open Go.RowKit Num

theorem crossInt {u d d' P Q M : Int} (h : u * Q = P * d) : u * d' * (Q * M) = P * (M * d' * d) := by
  have e : u * d' * (Q * M) = u * Q * (d' * M) := by ac_rfl
  rw [e, h]
  ac_rfl
theorem tw_eq (P1 P3 Q k n : Int) : (P1 * (n * (Q * Q)) + k * (P3 * Q - P1 * Q) * Q) * (Q * n) = ((n - k) * P1 + k * P3) * (Q * (n * (Q * Q))) := by grind
end Go.Proofs.YtngnclibeccplaaDoor
/- Curves, the document's own: the point of a curve, by neighbours, till one is left. -/

namespace Go.Proofs.YtngnclibeccplaaDoor
open Go.RowKit Num rows

/-- a spot that is worth a point's parts by q -/
def SpIs (p : Pt) (q : Nat) (s : Sp) : Prop := SV p.x q 8 s.n1 s.a1 s.c1 s.d1 s.e1 ∧ SV p.y q 8 s.n2 s.a2 s.c2 s.d2 s.e2
/-- .. one by one -/
def SpsAre (w : World) (q : Nat) (ps : List Pt) (L : List Sp) : Prop := ps.length = L.length ∧ ∀ (i : Nat) (h : i < ps.length) (h' : i < L.length), SpIs ps[i] q L[i] ∧ L[i].Ok w
theorem SpsAre.nil (w : World) (q : Nat) : SpsAre w q [] [] := ⟨rfl, fun i h => absurd h (by simp)⟩
theorem SpsAre.imp {w w' : World} {q : Nat} {ps : List Pt} {L : List Sp} (h : SpsAre w q ps L) (hw : ∀ s : Sp, s.Ok w → s.Ok w') : SpsAre w' q ps L := ⟨h.1, fun i h1 h2 => ⟨(h.2 i h1 h2).1, hw _ (h.2 i h1 h2).2⟩⟩
theorem SpsAre.snoc {w : World} {q : Nat} {ps : List Pt} {L : List Sp} (h : SpsAre w q ps L) {p : Pt} {s : Sp} (hp : SpIs p q s) (hs : s.Ok w) : SpsAre w q (ps ++ [p]) (L ++ [s]) := by
  refine ⟨by simp [h.1], fun i h1 h2 => ?_⟩
  rcases Nat.lt_or_ge i ps.length with hi | hi
  · rw [List.getElem_append_left hi, List.getElem_append_left (by rw [← h.1]; exact hi)]
    exact h.2 i hi (by rw [← h.1]; exact hi)
  · have hi2 : i = ps.length := by simp at h1; omega
    subst hi2
    have e : (L ++ [s])[ps.length] = s := by
      rw [List.getElem_append_right (by rw [h.1]; exact Nat.le_refl _)]
      simp [h.1]
    rw [List.getElem_append_right (Nat.le_refl _), e]
    simpa using ⟨hp, hs⟩
/-- a spot as it is handed on -/
def Sp.v (s : Sp) : Value := .agg #[.bool s.n1, .slice s.A1 s.a1.length s.c1, .slice s.D1 s.d1.length s.e1, .bool s.n2, .slice s.A2 s.a2.length s.c2, .slice s.D2 s.d2.length s.e2]
theorem part_lt {x : Int} (h : -274877874176 ≤ x ∧ x ≤ 274877874176) : x.natAbs < 4294967296 ^ 2 := by
  have e : (4294967296 : Nat) ^ 2 = 18446744073709551616 := by decide
  rw [e]; omega
theorem OwnS.drew {w : World} {base : Nat} {v : Value} {n : Nat} {xs : List Value} (h : OwnS w base v n xs) : OwnS w.drew base v n xs := h
theorem Sp.Ok.drew {w : World} {s : Sp} (h : s.Ok w) : s.Ok w.drew := h.on (below_drewN (Below.refl _ _) 1)

end Go.Proofs.YtngnclibeccplaaDoor
/- Curves, the document's own: Curve. -/

namespace Go.Proofs.YtngnclibeccplaaDoor
open Go.RowKit Num rows

/-- what lay below, and one block more, stay -/
def KeepG (wo V2 : World) (g : Nat) (V : World) : Prop := Below wo.heap.size wo V ∧ g < V.heap.size ∧ V2.heap[g]? = V.heap[g]?
theorem KeepG.on {wo V2 V V' : World} {g : Nat} (h : KeepG wo V2 g V) (b : Below V.heap.size V V') : KeepG wo V2 g V' := ⟨h.1.trans (b.mono h.1.size), Nat.lt_of_lt_of_le h.2.1 b.size, h.2.2.trans (b.block _ h.2.1).symm⟩
theorem KeepG.alloc {wo V2 V : World} {g : Nat} (h : KeepG wo V2 g V) (o : Obj) : KeepG wo V2 g (V.alloc o) := h.on (below_new V o)
theorem KeepG.drew {wo V2 V : World} {g : Nat} (h : KeepG wo V2 g V) : KeepG wo V2 g V.drew := ⟨h.1.drew, h.2.1, h.2.2⟩
theorem KeepG.grown {wo V2 V V' wr : World} {g base k n : Nat} {e : TypeId} {v : Value} {xs : List Value} (h : KeepG wo V2 g V) (hg : V.grownBy V' v.ownBlock) (ho : V.ownsRow base e k v n xs) (hr : wr.ownsRow base e k v n xs) (hb : wo.heap.size ≤ base) (hw : wr.heap.size ≤ g) : KeepG wo V2 g V' :=
  ⟨h.1.grown hg h.1.size (fun kk ee => Nat.le_trans hb (ho.lt kk ee).1), Nat.lt_of_lt_of_le h.2.1 hg.size, h.2.2.trans (hg.block _ h.2.1 (fun ee => by have h1 := (hr.lt _ ee.symm).2; omega)).symm⟩

end Go.Proofs.YtngnclibeccplaaDoor
