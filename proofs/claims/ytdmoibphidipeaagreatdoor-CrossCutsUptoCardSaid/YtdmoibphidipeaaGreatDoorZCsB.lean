/- Where ways meet: what the calls on spots answer, by what the spots are worth. -/
import Derived.Test.YtdmoibphidipeaaGreatDoorZCrX
import Derived.Test.YtdmoibphidipeaaGreatDoorZCrY
import Derived.Test.YtdmoibphidipeaaGreatDoorZSoD
import Derived.Test.YtdmoibphidipeaaGreatDoorZOaH
import Derived.Test.YtdmoibphidipeaaGreatDoorZOaG
namespace Go.Proofs.YtdmoibphidipeaaGreatDoor
open Go.RowKit Num rows

def spV (s : Sp) : Value := .agg #[.bool s.n1, .slice s.A1 s.a1.length s.c1, .slice s.D1 s.d1.length s.e1, .bool s.n2, .slice s.A2 s.a2.length s.c2, .slice s.D2 s.d2.length s.e2]
/-- a call that answers a reduced spot of this worth -/
def AtTo (q : Qp) (w : World) (e : Ending) (w' : World) : Prop := ∃ s : Sp, e = .returned (spV s) ∧ s.Red 8 ∧ s.Ok w' ∧ sw s = q ∧ Below w.heap.size w w'
theorem Gs.toAt {P P' : Int} {Q Q' : Nat} (hQ : 0 < Q) (hQ' : 0 < Q') {w w' : World} {e : Ending} (h : Gs (SG P Q 8) (SG P' Q' 8) w e w') : AtTo (qs P P' Q Q') w e w' := by
  obtain ⟨n1, a1, A1, c1, d1, D1, e1, n2, a2, A2, c2, d2, D2, e2, rfl, ⟨h1, h2⟩, ⟨r1, q1⟩, ⟨r2, q2⟩, hb⟩ := h
  obtain ⟨k1, k2⟩ := red_spot (s := ⟨n1, a1, A1, c1, d1, D1, e1, n2, a2, A2, c2, d2, D2, e2⟩) hQ hQ' h1 h2
  exact ⟨⟨n1, a1, A1, c1, d1, D1, e1, n2, a2, A2, c2, d2, D2, e2⟩, rfl, k1, ⟨⟨r1, q1⟩, r2, q2⟩, k2, hb⟩
theorem qs_pt (p : Pt) : qs p.x p.y 1 1 = qAt p := by unfold qs qAt; rw [qf_int, qf_int]
theorem fit_small {x : Int} (h : -8388607 ≤ x ∧ x ≤ 8388607) : x.natAbs < 4294967296 ^ 8 := Nat.lt_of_lt_of_le (show x.natAbs < 4294967296 ^ 1 by omega) (by decide)
theorem spot_AtW (p : Pt) (hp : FitP p) (w : World) : Calls Tryz.prog 50 #[ptV p] w (AtTo (qAt p) w) := by
  unfold FitP at hp
  refine (spot_At (SF p.x 1) (SF p.y 1) p.x p.y (fun V => frac_Int p.x (by omega) (by omega) V) (fun V => frac_Int p.y (by omega) (by omega) V) w).mono fun e w' h => ?_
  rw [← qs_pt]
  exact Gs.toAt (by omega) (by omega) (h.imp (fun _ _ _ _ _ k => k.toG (fit_small (by omega)) (by decide)) (fun _ _ _ _ _ k => k.toG (fit_small (by omega)) (by decide)))
theorem ref5_AtW (p : Pt) (hp : FitP p) (w : World) : Calls Tryz.prog 19 #[ptV p] w (AtTo (qAt p) w) := by
  unfold FitP at hp
  refine (ref5_At (SF p.x 1) (SF p.y 1) p.x p.y (fun V => rv_Int p.x (by omega) (by omega) V) (fun V => rv_Int p.y (by omega) (by omega) V) w).mono fun e w' h => ?_
  rw [← qs_pt]
  exact Gs.toAt (by omega) (by omega) (h.imp (fun _ _ _ _ _ k => k.toG (fit_small (by omega)) (by decide)) (fun _ _ _ _ _ k => k.toG (fit_small (by omega)) (by decide)))
theorem SI.up {P : Int} {Q m : Nat} {n : Bool} {a d : List Nat} {ca cd : Nat} (k : SI P Q m n a ca d cd) : (upN n a d).natAbs < 4294967296 ^ m ∧ loD d ≤ 4294967296 ^ m :=
  ⟨Nat.lt_of_lt_of_le (up_lt k.2.2.1) (Nat.pow_le_pow_right (by omega) k.2.2.2.2.1), Nat.le_trans (loD_le k.2.2.2.1) (Nat.pow_le_pow_right (by omega) k.2.2.2.2.2.1)⟩
theorem Sp.Red.wide {M M' : Nat} (hM : M ≤ M') {s : Sp} (h : s.Red M) : s.Red M' := ⟨⟨h.1.1, Nat.le_trans h.1.2.1 hM, Nat.le_trans h.1.2.2 hM⟩, h.2.1, Nat.le_trans h.2.2.1 hM, Nat.le_trans h.2.2.2 hM⟩
theorem RowW.wide {M M' : Nat} (hM : M ≤ M') {w : World} {xs : List Sp} {R : List Qp} (h : RowW M w xs R) : RowW M' w xs R := ⟨h.1, fun s hs => ⟨(h.2 s hs).1.wide hM, (h.2 s hs).2⟩⟩
/-- the document's On -/
theorem ref5_OnW {M : Nat} (hM : M ≤ 100000) (s t u : Sp) (hs : s.Red M) (ht : t.Red M) (hu : u.Red M) (b : Bool) (hb : b = true ↔ OnQ (sw s) (sw t) (sw u)) (V : World) (os : s.Ok V) (ot : t.Ok V) (ou : u.Ok V) :
    Calls Tryz.prog 45 #[spV s, spV t, spV u] V fun e w' => e = .returned (.bool b) ∧ Below V.heap.size V w' := by
  have i1 := hs.sh.1
  have i2 := hs.sh.2
  have i3 := ht.sh.1
  have i4 := ht.sh.2
  have i5 := hu.sh.1
  have i6 := hu.sh.2
  have h := rv_On (u1 := M) (u2 := M) (u3 := M) (u4 := M) (u5 := M) (u6 := M) (by omega) i1.up.1 i2.up.1 i3.up.1 i4.up.1 i5.up.1 i6.up.1 i1.up.2 i2.up.2 i3.up.2 i4.up.2 i5.up.2 i6.up.2 (loD_pos _) (loD_pos _) (loD_pos _) (loD_pos _) (loD_pos _) (loD_pos _)
    s.n1 s.n2 t.n1 t.n2 u.n1 u.n2 s.a1 s.d1 s.a2 s.d2 t.a1 t.d1 t.a2 t.d2 u.a1 u.d1 u.a2 u.d2 s.A1 s.D1 s.A2 s.D2 t.A1 t.D1 t.A2 t.D2 u.A1 u.D1 u.A2 u.D2 s.c1 s.e1 s.c2 s.e2 t.c1 t.e1 t.c2 t.e2 u.c1 u.e1 u.c2 u.e2 V
    (i1.widen (by omega)) (i2.widen (by omega)) (i3.widen (by omega)) (i4.widen (by omega)) (i5.widen (by omega)) (i6.widen (by omega)) os.1.1 os.1.2 os.2.1 os.2.2 ot.1.1 ot.1.2 ot.2.1 ot.2.2 ou.1.1 ou.1.2 ou.2.1 ou.2.2
  have e := onB_iff (P1 := upN s.n1 s.a1 s.d1) (P2 := upN s.n2 s.a2 s.d2) (P3 := upN t.n1 t.a1 t.d1) (P4 := upN t.n2 t.a2 t.d2) (P5 := upN u.n1 u.a1 u.d1) (P6 := upN u.n2 u.a2 u.d2) (loD_pos s.d1) (loD_pos s.d2) (loD_pos t.d1) (loD_pos t.d2) (loD_pos u.d1) (loD_pos u.d2)
  rw [Bool.eq_iff_iff.2 (e.trans hb.symm)] at h
  exact h
/-- both Cmp -/
theorem spot_CmpW {M : Nat} (hM1 : 1 ≤ M) (hM : M ≤ 100000) (s t : Sp) (hs : s.Red M) (ht : t.Red M) (z : Int) (hz : cmpS s t = z) (V : World) (os : s.Ok V) (ot : t.Ok V) :
    Calls Tryz.prog 32 #[spV s, spV t] V fun e w' => e = .returned (.int .i64 z) ∧ Below V.heap.size V w' := by
  have h := fv_SCmp (m := M) hM1 (by omega) (loD_pos s.d1) (loD_pos s.d2) (loD_pos t.d1) (loD_pos t.d2)
    s.n1 s.n2 t.n1 t.n2 s.a1 s.d1 s.a2 s.d2 t.a1 t.d1 t.a2 t.d2 s.A1 s.D1 s.A2 s.D2 t.A1 t.D1 t.A2 t.D2 s.c1 s.e1 s.c2 s.e2 t.c1 t.e1 t.c2 t.e2 V
    hs.sh.1.toV hs.sh.2.toV ht.sh.1.toV ht.sh.2.toV os.1.1 os.1.2 os.2.1 os.2.2 ot.1.1 ot.1.2 ot.2.1 ot.2.2
  subst hz
  exact h
theorem ref5_CmpW {M : Nat} (hM : M ≤ 100000) (s t : Sp) (hs : s.Red M) (ht : t.Red M) (z : Int) (hz : cmpS s t = z) (V : World) (os : s.Ok V) (ot : t.Ok V) :
    Calls Tryz.prog 47 #[spV s, spV t] V fun e w' => e = .returned (.int .i64 z) ∧ Below V.heap.size V w' := by
  have h := rv_SCmp (m := M) (by omega) (loD_pos s.d1) (loD_pos s.d2) (loD_pos t.d1) (loD_pos t.d2)
    s.n1 s.n2 t.n1 t.n2 s.a1 s.d1 s.a2 s.d2 t.a1 t.d1 t.a2 t.d2 s.A1 s.D1 s.A2 s.D2 t.A1 t.D1 t.A2 t.D2 s.c1 s.e1 s.c2 s.e2 t.c1 t.e1 t.c2 t.e2 V
    hs.sh.1.toV hs.sh.2.toV ht.sh.1.toV ht.sh.2.toV os.1.1 os.1.2 os.2.1 os.2.2 ot.1.1 ot.1.2 ot.2.1 ot.2.2
  subst hz
  exact h
/-- spots of one worth are the same -/
theorem ref5_SameW {M : Nat} (hM : M ≤ 100000) (s t : Sp) (hs : s.Red M) (ht : t.Red M) (he : sw s = sw t) (V : World) (os : s.Ok V) (ot : t.Ok V) :
    Calls Tryz.prog 34 #[spV s, spV t] V fun e w' => e = .returned (.bool true) ∧ Below V.heap.size V w' := by
  obtain ⟨⟨g1, g2, g3⟩, g4, g5, g6⟩ := red_same hs ht he
  have k1 := ht.1
  have k2 := ht.2
  rw [← g1, ← g2, ← g3] at k1
  rw [← g4, ← g5, ← g6] at k2
  have h := ref5_Same (rv_SameG _ _ M (by omega)) (rv_SameG _ _ M (by omega)) s.n1 s.n2 s.n1 s.n2 s.a1 s.d1 s.a2 s.d2 s.a1 s.d1 s.a2 s.d2 s.A1 s.D1 s.A2 s.D2 t.A1 t.D1 t.A2 t.D2 s.c1 s.e1 s.c2 s.e2 t.c1 t.e1 t.c2 t.e2 V hs.1 hs.2 k1 k2 os.1.1 os.1.2 os.2.1 os.2.2
    (by rw [g2]; exact ot.1.1) (by rw [g3]; exact ot.1.2) (by rw [g5]; exact ot.2.1) (by rw [g6]; exact ot.2.2)
  unfold spV
  rw [← g1, ← g2, ← g3, ← g4, ← g5, ← g6]
  exact h
/-- both Rows, read -/
def RowTo (L : List Sp) (w : World) (e : Ending) (w' : World) : Prop :=
  ∃ p cap xs R, e = .returned (.slice p (List.length xs) cap) ∧ xs.length ≤ cap ∧ RdS w' p xs ∧ RowW 16 w' xs R ∧ (R.Pairwise ltQ ∧ ∀ q, q ∈ R ↔ q ∈ L.map sw) ∧ Below w.heap.size w w'
theorem spot_RowW (L : List Sp) (A : Option Addr) (cap : Nat) (w : World) (hlen : L.length ≤ 1048576) (hl : RdS w A L) (hL : ∀ s ∈ L, s.Red 15 ∧ s.Ok w) :
    Calls Tryz.prog 37 #[.slice A L.length cap] w (RowTo L w) := by
  rcases Nat.eq_zero_or_pos L.length with h0 | h0
  · obtain rfl : L = [] := List.eq_nil_of_length_eq_zero h0
    refine (spot_Row0 A cap w).mono ?_
    rintro e w' ⟨p, cp, rfl, hb⟩
    exact ⟨p, cp, [], [], rfl, Nat.zero_le _, fun hn => by simp at hn, RowW.nil _ _, ⟨List.Pairwise.nil, fun q => Iff.rfl⟩, hb⟩
  · refine (spot_Row L A cap 15 w (by omega) (by omega) hlen h0 hl (fun s hs => (hL s hs).2) (fun s hs => (hL s hs).1.sh)).mono ?_
    rintro e w' ⟨s, h1, h2, h3, p, cp, xs, rfl, hc, hr, hf, hb⟩
    obtain ⟨R, k1, k2, k3⟩ := cut_worth (ord_cfL L) h1 h2 h3 hf
    exact ⟨p, cp, xs, R, rfl, hc, hr, k1, ⟨k2, k3⟩, hb⟩
theorem ref5_RowW (L : List Sp) (A : Option Addr) (cap : Nat) (w : World) (hlen : L.length ≤ 1048576) (hcap : L.length ≤ cap) (hl : RdS w A L) (hL : ∀ s ∈ L, s.Red 15 ∧ s.Ok w) :
    Calls Tryz.prog 46 #[.slice A L.length cap] w (RowTo L w) := by
  refine (ref5_Row L A cap 15 w (by omega) hlen hcap hl (fun s hs => (hL s hs).2) (fun s hs => (hL s hs).1.sh)).mono ?_
  rintro e w' ⟨v, xs, rfl, ho, hf, hb⟩
  obtain ⟨p, cp, rfl, hc⟩ := ho.any
  obtain ⟨R, k1, k2, k3⟩ := row_worth (ord_cfL L) hf
  exact ⟨p, cp, xs, R, rfl, hc, ho.reads, k1, ⟨k2, k3⟩, hb⟩
end Go.Proofs.YtdmoibphidipeaaGreatDoor
