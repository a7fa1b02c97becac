/- Where ways meet, the document's own: areas, parts, the point there, of spots as they lie. -/
import Derived.Test.YtdmoibphidipeaaGreatDoorZCrY
import Derived.Test.YtdmoibphidipeaaGreatDoorZFlF
namespace Go.Proofs.YtdmoibphidipeaaGreatDoor
open Go.RowKit Num rows

theorem Sp.Red.atV {s : Sp} {p : Pt} (h : s.Red 8) (e : sw s = qAt p) : SV p.x 1 8 s.n1 s.a1 s.c1 s.d1 s.e1 ∧ SV p.y 1 8 s.n2 s.a2 s.c2 s.d2 s.e2 := by
  rw [← qs_pt] at e
  unfold sw qs at e
  injection e with e1 e2
  have k1 := of_qf (loD_pos _) (by omega) e1
  have k2 := of_qf (loD_pos _) (by omega) e2
  obtain ⟨g1, g2, g3, g4, g5, g6, -⟩ := SG.toV (loD_pos _) h.1
  obtain ⟨m1, m2, m3, m4, m5, m6, -⟩ := SG.toV (loD_pos _) h.2
  exact ⟨⟨g1, g2, g3, g4, g5, g6, k1⟩, m1, m2, m3, m4, m5, m6, k2⟩
theorem ref5_AreaW {s t u : Sp} {p q r : Pt} (fp : FitP p) (fq : FitP q) (fr : FitP r) (hs : s.Red 8) (es : sw s = qAt p) (ht : t.Red 8) (et : sw t = qAt q) (hu : u.Red 8) (eu : sw u = qAt r) (V : World) (os : s.Ok V) (ot : t.Ok V) (ou : u.Ok V) :
    Calls Tryz.prog 40 #[spV s, spV t, spV u] V (Gv (SV (arI p.x p.y q.x q.y r.x r.y) 1 8) V) := by
  obtain ⟨i1, i2⟩ := hs.atV es
  obtain ⟨i3, i4⟩ := ht.atV et
  obtain ⟨i5, i6⟩ := hu.atV eu
  obtain ⟨g1, g2⟩ := fit_InG fp
  obtain ⟨g3, g4⟩ := fit_InG fq
  obtain ⟨g5, g6⟩ := fit_InG fr
  obtain ⟨V0, V1, V2, V3, V4, V5, V6, x0, x1, x2, x3, x4, x5, x6, x7⟩ := area_chain g1 g2 g3 g4 g5 g6
  exact ref5_Area x0 x1 x2 x3 x4 x5 x6 x7 s.n1 s.n2 t.n1 t.n2 u.n1 u.n2 s.a1 s.d1 s.a2 s.d2 t.a1 t.d1 t.a2 t.d2 u.a1 u.d1 u.a2 u.d2 s.A1 s.D1 s.A2 s.D2 t.A1 t.D1 t.A2 t.D2 u.A1 u.D1 u.A2 u.D2 s.c1 s.e1 s.c2 s.e2 t.c1 t.e1 t.c2 t.e2 u.c1 u.e1 u.c2 u.e2 V
    i1 i2 i3 i4 i5 i6 os.1.1 os.1.2 os.2.1 os.2.2 ot.1.1 ot.1.2 ot.2.1 ot.2.2 ou.1.1 ou.1.2 ou.2.1 ou.2.2
theorem ref4_CmpW {s t : Fc} {P P' z : Int} (hs : s.Is P 1 8) (ht : t.Is P' 1 8) (hz : sgn (P - P') = z) (V : World) (os : s.Ok V) (ot : t.Ok V) :
    Calls Tryz.prog 41 #[fcV s, fcV t] V fun e w' => e = .returned (.int .i64 z) ∧ Below V.heap.size V w' := by
  have h := rv_Cmp P P' 1 1 8 (by omega) (by omega) (by omega) s.n t.n s.a s.d t.a t.d s.A s.D t.A t.D s.c s.e t.c t.e V hs ht os.1 os.2 ot.1 ot.2
  rw [show P * ((1 : Nat) : Int) - P' * ((1 : Nat) : Int) = P - P' by omega, hz] at h
  exact h
/-- a fraction that a call answers -/
def FcTo (P : Int) (Q : Nat) (w : World) (e : Ending) (w' : World) : Prop := ∃ s : Fc, e = .returned (fcV s) ∧ s.Is P Q 8 ∧ s.Ok w' ∧ Below w.heap.size w w'
theorem Gv.toFc {P : Int} {Q : Nat} {w w' : World} {e : Ending} (h : Gv (SV P Q 8) w e w') : FcTo P Q w e w' := by
  obtain ⟨n, a, A, ca, d, D, cd, rfl, h1, h2, h3, h4⟩ := h
  exact ⟨⟨n, a, A, ca, d, D, cd⟩, rfl, h1, ⟨h2, h3⟩, h4⟩
theorem ref4_SubW {s t : Fc} {P P' : Int} (hb : (P - P').natAbs < 4294967296 ^ 4) (hs : s.Is P 1 8) (ht : t.Is P' 1 8) (V : World) (os : s.Ok V) (ot : t.Ok V) :
    Calls Tryz.prog 43 #[fcV s, fcV t] V (FcTo (P - P') 1 V) :=
  (rv_SubI hb s.n t.n s.a s.d t.a t.d s.A s.D t.A t.D s.c s.e t.c t.e V hs ht os.1 os.2 ot.1 ot.2).mono fun _ _ h => Gv.toFc h
theorem ref4_DivW {s t : Fc} {P P' : Int} (hP : P' ≠ 0) (b1 : (acrossN P P').natAbs < 4294967296 ^ 4) (b2 : P'.natAbs < 4294967296 ^ 4) (hs : s.Is P 1 8) (ht : t.Is P' 1 8) (V : World) (os : s.Ok V) (ot : t.Ok V) :
    Calls Tryz.prog 42 #[fcV s, fcV t] V fun e w' => ∃ u : Fc, e = .returned (.tuple #[fcV u, .int .i64 0]) ∧ u.Is (acrossN P P') P'.natAbs 8 ∧ u.Ok w' ∧ Below V.heap.size V w' := by
  refine (rv_DivN P P' 8 hP (by omega) s.n t.n s.a s.d t.a t.d s.A s.D t.A t.D s.c s.e t.c t.e V hs ht os.1 os.2 ot.1 ot.2).mono ?_
  rintro e w' ⟨v, rfl, h⟩
  obtain ⟨u, hu, h2, h3, h4⟩ := Gv.toFc (h.imp (fun _ _ _ _ _ k => SF.toV (by omega) (lt8 b1) (lt8 b2) k))
  cases hu
  exact ⟨u, rfl, h2, h3, h4⟩
theorem ref5_TowardW {s t : Sp} {f : Fc} {a b : Pt} {F : Int} {N : Nat} (fa : FitP a) (fb : FitP b) (hs : s.Red 8) (es : sw s = qAt a) (ht : t.Red 8) (et : sw t = qAt b) (hf : f.Is F N 8) (hN : 0 < N) (hN2 : N ≤ 2251799813685248) (hF : -2251799813685248 ≤ F ∧ F ≤ 2251799813685248) (V : World) (os : s.Ok V) (ot : t.Ok V) (of : f.Ok V) :
    Calls Tryz.prog 44 #[spV s, spV t, fcV f] V (AtTo (qs (a.x * N + F * (b.x - a.x)) (a.y * N + F * (b.y - a.y)) N N) V) := by
  obtain ⟨i1, i2⟩ := hs.atV es
  obtain ⟨i3, i4⟩ := ht.atV et
  obtain ⟨g1, g2⟩ := fit_InG fa
  obtain ⟨g3, g4⟩ := fit_InG fb
  obtain ⟨T0, T1, x0, x1, x2⟩ := toward_chain g1 g3 hN hN2 hF
  obtain ⟨T3, T4, x3, x4, x5⟩ := toward_chain g2 g4 hN hN2 hF
  exact (ref5_Toward _ _ _ _ _ _ _ _ _ _ _ x0 x1 x2 x3 x4 x5 s.n1 s.n2 t.n1 t.n2 f.n s.a1 s.d1 s.a2 s.d2 t.a1 t.d1 t.a2 t.d2 f.a f.d s.A1 s.D1 s.A2 s.D2 t.A1 t.D1 t.A2 t.D2 f.A f.D s.c1 s.e1 s.c2 s.e2 t.c1 t.e1 t.c2 t.e2 f.c f.e V
    i1 i2 i3 i4 hf os.1.1 os.1.2 os.2.1 os.2.2 ot.1.1 ot.1.2 ot.2.1 ot.2.2 of.1 of.2).mono fun _ _ h => Gs.toAt hN hN h
end Go.Proofs.YtdmoibphidipeaaGreatDoor
