/- Where ways meet, the document's own: areas, parts, the point there, of spots as they lie. -/
import Derived.Test.YtdmoibphidipeaaGreatDoorZCrY
import Derived.Test.YtdmoibphidipeaaGreatDoorZFlF
namespace Go.Proofs.YtdmoibphidipeaaGreatDoor
open Go.RowKit Num rows

theorem Sp.Red.atV {s : Sp} {p : Pt} (h : s.Red 8) (e : sw s = qAt p) : SV p.x 1 8 s.n1 s.a1 s.c1 s.d1 s.e1 ∧ SV p.y 1 8 s.n2 s.a2 s.c2 s.d2 s.e2 := by
  rw [← qs_pt] at e
  unfold sw qs at e
  injection e with e1 e2
  have k1 := of_qf (loD_pos _) (by omega) e1
  have k2 := of_qf (loD_pos _) (by omega) e2
  obtain ⟨g1, g2, g3, g4, g5, g6, -⟩ := SG.toV (loD_pos _) h.1
  obtain ⟨m1, m2, m3, m4, m5, m6, -⟩ := SG.toV (loD_pos _) h.2
  exact ⟨⟨g1, g2, g3, g4, g5, g6, k1⟩, m1, m2, m3, m4, m5, m6, k2⟩
/-- a fraction that a call answers -/
def FcTo (P : Int) (Q : Nat) (w : World) (e : Ending) (w' : World) : Prop := ∃ s : Fc, e = .returned (fcV s) ∧ s.Is P Q 8 ∧ s.Ok w' ∧ Below w.heap.size w w'
theorem Gv.toFc {P : Int} {Q : Nat} {w w' : World} {e : Ending} (h : Gv (SV P Q 8) w e w') : FcTo P Q w e w' := by
  obtain ⟨n, a, A, ca, d, D, cd, rfl, h1, h2, h3, h4⟩ := h
  exact ⟨⟨n, a, A, ca, d, D, cd⟩, rfl, h1, ⟨h2, h3⟩, h4⟩
end Go.Proofs.YtdmoibphidipeaaGreatDoor
