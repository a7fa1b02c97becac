/- Fractions, the document's own: what Mul and Add answer. -/
import Derived.Test.YtbhahddgajkchaaZFrX
import Derived.Deep.RegionWith
namespace Go.Proofs.Ytbhahddgajkchaa
open Go.RowKit Num

/-- two arguments' boxes and the result's one -/
theorem frac_boxes2 (w : World) (v0 v1 v2 u0 u1 u2 : Value) : ∃ W, ((w.alloc (.cells #[v0, v1, v2] 50)).alloc (.cells #[u0, u1, u2] 50)).alloc (.cells #[.bool false, .slice none 0 0, .slice none 0 0] 50) = W ∧ Blk W w.heap.size 50 [v0, v1, v2] ∧ Blk W (w.heap.size + 1) 50 [u0, u1, u2] ∧ Blk W (w.heap.size + 1 + 1) 50 [.bool false, .slice none 0 0, .slice none 0 0] ∧ Below w.heap.size w W ∧ W.heap.size = w.heap.size + 3 :=
  ⟨_, rfl, ((Blk.new w 50 [v0, v1, v2]).alloc _).alloc _, (Blk.at_new (w.alloc (.cells #[v0, v1, v2] 50)) 50 [u0, u1, u2] (by simp)).alloc _, Blk.at_new ((w.alloc (.cells #[v0, v1, v2] 50)).alloc (.cells #[u0, u1, u2] 50)) 50 [.bool false, .slice none 0 0, .slice none 0 0] (by simp),
    (((below_one w _).alloc (by simp) _).alloc (by simp; omega) _), by simp⟩

theorem far_cells {v : World} {g g' : Nat} {t : TypeId} {a0 a1 a2 : Value} (k : Blk v g t [a0, a1, a2]) (hne : g ≠ g') (u0 u1 u2 : Value) :
    (((v.setCell ⟨g', 0, none⟩ u0).setCell ⟨g', 1, none⟩ u1).setCell ⟨g', 2, none⟩ u2).cell? ⟨g, 0, none⟩ = some a0 ∧ (((v.setCell ⟨g', 0, none⟩ u0).setCell ⟨g', 1, none⟩ u1).setCell ⟨g', 2, none⟩ u2).cell? ⟨g, 1, none⟩ = some a1 ∧ (((v.setCell ⟨g', 0, none⟩ u0).setCell ⟨g', 1, none⟩ u1).setCell ⟨g', 2, none⟩ u2).cell? ⟨g, 2, none⟩ = some a2 := by
  have k' := ((k.far (p := ⟨g', 0, none⟩) hne u0).far (p := ⟨g', 1, none⟩) hne u1).far (p := ⟨g', 2, none⟩) hne u2
  exact ⟨k'.cell 0 rfl, k'.cell 1 rfl, k'.cell 2 rfl⟩
/-- two fractions in their boxes, whose lower parts aren't 0 -/
def Worthed (w wc : World) (m : Nat) (P1 : Int) (Q1 : Nat) (P2 : Int) (Q2 : Nat) : Prop :=
  ∃ n1 a1 A1 c1 d1 D1 e1 n2 a2 A2 c2 d2 D2 e2, Blk wc w.heap.size 50 [.bool n1, .slice A1 a1.length c1, .slice D1 d1.length e1] ∧ Blk wc (w.heap.size + 1) 50 [.bool n2, .slice A2 a2.length c2, .slice D2 d2.length e2] ∧
    Dg 4294967296 a1 ∧ Dg 4294967296 d1 ∧ Dg 4294967296 a2 ∧ Dg 4294967296 d2 ∧ a1.length ≤ m ∧ d1.length ≤ m ∧ a2.length ≤ m ∧ d2.length ≤ m ∧ wv n1 a1 = P1 ∧ val 4294967296 d1 = Q1 ∧ wv n2 a2 = P2 ∧ val 4294967296 d2 = Q2 ∧
    Rd wc (fun g => g < wc.heap.size) .u32 A1 a1 ∧ Rd wc (fun g => g < wc.heap.size) .u32 D1 d1 ∧ Rd wc (fun g => g < wc.heap.size) .u32 A2 a2 ∧ Rd wc (fun g => g < wc.heap.size) .u32 D2 d2 ∧ Below w.heap.size w wc
theorem worthed {w v : World} {m : Nat} {P1 P2 : Int} {Q1 Q2 : Nat} {n n' : Bool} {B B' C C' : Option Addr} {i i' j j' k k' l l' : Nat} (k1 : Blk v w.heap.size 50 [.bool n, .slice B i j, .slice B' i' j']) (k2 : Blk v (w.heap.size + 1) 50 [.bool n', .slice C k l, .slice C' k' l']) (bb : Below w.heap.size w v)
    {n1 : Bool} {a1 : List Nat} {A1 : Option Addr} {c1 : Nat} {d1 : List Nat} {D1 : Option Addr} {e1 : Nat} {n2 : Bool} {a2 : List Nat} {A2 : Option Addr} {c2 : Nat} {d2 : List Nat} {D2 : Option Addr} {e2 : Nat}
    (g1 : Dg 4294967296 a1) (g2 : Dg 4294967296 d1) (g3 : Dg 4294967296 a2) (g4 : Dg 4294967296 d2) (l1 : a1.length ≤ m) (l2 : d1.length ≤ m) (l3 : a2.length ≤ m) (l4 : d2.length ≤ m) (v1 : wv n1 a1 = P1) (v2 : val 4294967296 d1 = Q1) (v3 : wv n2 a2 = P2) (v4 : val 4294967296 d2 = Q2)
    (r1 : Rd v (fun g => g < v.heap.size) .u32 A1 a1) (r2 : Rd v (fun g => g < v.heap.size) .u32 D1 d1) (r3 : Rd v (fun g => g < v.heap.size) .u32 A2 a2) (r4 : Rd v (fun g => g < v.heap.size) .u32 D2 d2) :
    Worthed w ((((((v.setCell ⟨w.heap.size, 0, none⟩ (.bool n1)).setCell ⟨w.heap.size, 1, none⟩ (.slice A1 a1.length c1)).setCell ⟨w.heap.size, 2, none⟩ (.slice D1 d1.length e1)).setCell ⟨w.heap.size + 1, 0, none⟩ (.bool n2)).setCell ⟨w.heap.size + 1, 1, none⟩ (.slice A2 a2.length c2)).setCell ⟨w.heap.size + 1, 2, none⟩ (.slice D2 d2.length e2)) m P1 Q1 P2 Q2 ∧
      (∀ g t vs, g ≠ w.heap.size → g ≠ w.heap.size + 1 → Blk v g t vs → Blk ((((((v.setCell ⟨w.heap.size, 0, none⟩ (.bool n1)).setCell ⟨w.heap.size, 1, none⟩ (.slice A1 a1.length c1)).setCell ⟨w.heap.size, 2, none⟩ (.slice D1 d1.length e1)).setCell ⟨w.heap.size + 1, 0, none⟩ (.bool n2)).setCell ⟨w.heap.size + 1, 1, none⟩ (.slice A2 a2.length c2)).setCell ⟨w.heap.size + 1, 2, none⟩ (.slice D2 d2.length e2)) g t vs) := by
  obtain ⟨U, hU, -, -, -, kU, bU, oU, sU⟩ := k1.three (.bool n1) (.slice A1 a1.length c1) (.slice D1 d1.length e1)
  have k2' := oU _ _ _ (by omega) k2
  have x1 := r1.far3 k1 _ _ _ hU
  have x2 := r2.far3 k1 _ _ _ hU
  have x3 := r3.far3 k1 _ _ _ hU
  have x4 := r4.far3 k1 _ _ _ hU
  rw [hU]
  obtain ⟨Z, hZ, -, -, -, kZ, bZ, oZ, sZ⟩ := k2'.three (.bool n2) (.slice A2 a2.length c2) (.slice D2 d2.length e2)
  rw [hZ]
  exact ⟨⟨n1, a1, A1, c1, d1, D1, e1, n2, a2, A2, c2, d2, D2, e2, oZ _ _ _ (by omega) kU, kZ, g1, g2, g3, g4, l1, l2, l3, l4, v1, v2, v3, v4, x1.far3 k2' _ _ _ hZ, x2.far3 k2' _ _ _ hZ, x3.far3 k2' _ _ _ hZ, x4.far3 k2' _ _ _ hZ, (bb.trans (bU _ (Nat.le_refl _))).trans (bZ _ (by omega))⟩,
    fun g t vs h1 h2 k => oZ _ _ _ h2 (oU _ _ _ h1 k)⟩

end Go.Proofs.Ytbhahddgajkchaa
/- Fractions, the document's own: what Add answers. -/

namespace Go.Proofs.Ytbhahddgajkchaa
open Go.RowKit Num

set_option maxRecDepth 10000 in
set_option maxHeartbeats 1600000 in
/-- a sum -/
theorem ref4_Add (n n' : Bool) (a d a' d' : List Nat) (A D A' D' : Option Addr) (ca cd ca' cd' : Nat) (w : World) (h1 : Rd w (fun g => g < w.heap.size) .u32 A a) (h2 : Rd w (fun g => g < w.heap.size) .u32 D d) (h3 : Rd w (fun g => g < w.heap.size) .u32 A' a') (h4 : Rd w (fun g => g < w.heap.size) .u32 D' d') (hl1 : a.length ≤ 2097150) (hl2 : d.length ≤ 2097150) (hl3 : a'.length ≤ 2097150) (hl4 : d'.length ≤ 2097150) (ha : Dg 4294967296 a) (hd : Dg 4294967296 d) (ha' : Dg 4294967296 a') (hd' : Dg 4294967296 d') :
    Calls Try.prog 49 #[.agg #[.bool n, .slice A a.length ca, .slice D d.length cd], .agg #[.bool n', .slice A' a'.length ca', .slice D' d'.length cd']] w (GivesF (upN n a d * (loD d' : Int) + upN n' a' d' * (loD d : Int)) (loD d * loD d') w) := by
  obtain ⟨W, hW, k1, k2, k3, b0, s0⟩ := frac_boxes2 w (.bool n) (.slice A a.length ca) (.slice D d.length cd) (.bool n') (.slice A' a'.length ca') (.slice D' d'.length cd')
  obtain ⟨p0, p1, p2, p3, p4, p5⟩ := k1.facts
  obtain ⟨z0, z1, z2, z3, z4, z5⟩ := k2.facts
  have c1 := fun (V : World) (hV : Below W.heap.size W V) => ref4_worth n a d A D ca cd 2097150 V ((h1.on b0).on hV) ((h2.on b0).on hV) (by omega) (by omega) hl1 hl2 ha hd
  have c2 := fun (V : World) (hV : Below W.heap.size W V) => ref4_worth n' a' d' A' D' ca' cd' 2097150 V ((h3.on b0).on hV) ((h4.on b0).on hV) (by omega) (by omega) hl3 hl4 ha' hd'
  have K0 : Below W.heap.size W W.drew := below_drewN (Below.refl _ _) 1
  have C1 := Lib.hid c1
  have C2 := Lib.hid c2
  have HK1 := Lib.hid k1
  have HK2 := Lib.hid k2
  have HK3 := Lib.hid k3
  have hlt : w.heap.size + 2 < W.heap.size := by omega
  have HH := Lib.hid (And.intro h1 (And.intro h2 (And.intro h3 h4)))
  clear c1 c2 k1 k2 k3 h1 h2 h3 h4
  go_enter Try.func49, Try.ntmps49
  go_wp2_with fail
  try rw [hW]
  clear hW
  go_cut [] from 5 (fun wc => Worthed w wc 2097150 (upN n a d) (loD d) (upN n' a' d') (loD d') ∧ (∀ g t vs, g ≠ w.heap.size → g ≠ w.heap.size + 1 → Blk W g t vs → Blk wc g t vs))
  case first =>
    go_region_with (first
      | (go_at_call_of 42 (Value.slice A a.length ca); (with_reducible refine Calls.mono (C1.out _ K0) ?_); rintro e w1 ⟨n1, a1, A1, c1, d1, D1, e1, rfl, x1, x2, x3, x4, x5, x6, r1, q1, b1⟩; have KA := below_next K0 (Nat.le_refl _) b1; obtain ⟨m0, m1, m2, m3, m4, m5⟩ := (HK1.out.below KA HK1.out.lt).facts; obtain ⟨o0, o1, o2, o3, o4, o5⟩ := (HK2.out.below KA HK2.out.lt).facts)
      | (go_at_call_of 42 (Value.slice A' a'.length ca'); (with_reducible refine Calls.mono (C2.out _ KA) ?_); rintro e w2 ⟨n2, a2, A2, c2, d2, D2, e2, rfl, y1, y2, y3, y4, y5, y6, r2, q2, b2⟩; have KB := below_next KA (Nat.le_refl _) b2; obtain ⟨m6, m7, m8, m9, ma, mb⟩ := (HK1.out.below KB HK1.out.lt).facts; obtain ⟨o6, o7, o8, o9, oa, ob⟩ := (HK2.out.below KB HK2.out.lt).facts))
    all_goals
      have hw := worthed (c1 := c1) (e1 := e1) (c2 := c2) (e2 := e2) (HK1.out.below KB HK1.out.lt) (HK2.out.below KB HK2.out.lt) (b0.trans (KB.mono b0.size)) x1 x2 y1 y2 x3 x4 y3 y4 x5 x6 y5 y6 (r1.on b2) (q1.on b2) r2 q2
      have HW := Lib.hid hw
      have HKB := Lib.hid KB
      clear hw KB KA b1 b2 r1 q1 r2 q2 x1 x2 x3 x4 x5 x6 y1 y2 y3 y4 y5 y6 m0 m1 m2 m3 m4 m5 m6 m7 m8 m9 ma mb o0 o1 o2 o3 o4 o5 o6 o7 o8 o9 oa ob
      go_wp2_with fail
      go_meet
      exact ⟨HW.out.1, fun g t vs g1 g2 k => HW.out.2 g t vs g1 g2 (k.below HKB.out k.lt)⟩
  case rest =>
    obtain ⟨⟨n1, a1, A1, c1, d1, D1, e1, n2, a2, A2, c2, d2, D2, e2, kU, kV, x1, x2, y1, y2, x3, x4, y3, y4, x5, x6, y5, y6, r1, q1, r2, q2, bU⟩, hO⟩ := hcut
    have kR := hO _ _ _ (by omega) (by omega) HK3.out
    have hdp : 0 < val 4294967296 d1 := by rw [x6]; exact loD_pos d
    have hdq : 0 < val 4294967296 d2 := by rw [y6]; exact loD_pos d'
    have hlt2 : w.heap.size + 2 < wc.heap.size := kR.lt
    have K0' : Below wc.heap.size wc wc.drew := below_drewN (Below.refl _ _) 1
    obtain ⟨P1, hP1⟩ : ∃ P, wv n1 a1 * wv false d2 = P := ⟨_, rfl⟩
    obtain ⟨P2, hP2⟩ : ∃ P, wv n2 a2 * wv false d1 = P := ⟨_, rfl⟩
    obtain ⟨P, hP⟩ : ∃ P, P1 + P2 = P := ⟨_, rfl⟩
    obtain ⟨Q, hQ⟩ : ∃ Q, val 4294967296 d1 * val 4294967296 d2 = Q := ⟨_, rfl⟩
    have hQ0 : 0 < Q := by rw [← hQ]; exact Nat.mul_pos hdp hdq
    have cU1 := fun (V : World) => ref4_up n1 a1 d1 A1 D1 c1 e1 V
    have cU2 := fun (V : World) => ref4_up n2 a2 d2 A2 D2 c2 e2 V
    have cM1 := fun (V : World) (hV : Below wc.heap.size wc V) => ref2_Mul n1 false a1 d2 A1 D2 c1 e2 V (r1.on hV) (q2.on hV) (by omega) (by omega) x1 y2
    have cM2 := fun (V : World) (hV : Below wc.heap.size wc V) => ref2_Mul n2 false a2 d1 A2 D1 c2 e1 V (r2.on hV) (q1.on hV) (by omega) (by omega) y1 x2
    have cD := fun (V : World) (hV : Below wc.heap.size wc V) => ref_Mul d1 d2 D1 D2 e1 e2 _ _ V (q1.on hV) (q2.on hV) (fun g hg => hg) (fun g hg => hg) (by omega) (by omega) x2 y2
    simp only [hP1] at cM1
    simp only [hP2] at cM2
    simp only [hQ] at cD
    have hl1 : ∀ x : List Nat, Norm 4294967296 x → val 4294967296 x = P1.natAbs → x.length ≤ 4194300 := fun x hn hv => Nat.le_trans (len_mul (b := 4294967296) (by omega) hn.2 x1 y2 (by rw [hv, ← hP1, Int.natAbs_mul, wv_abs, wv_abs])) (by omega)
    have hl2 : ∀ x : List Nat, Norm 4294967296 x → val 4294967296 x = P2.natAbs → x.length ≤ 4194300 := fun x hn hv => Nat.le_trans (len_mul (b := 4294967296) (by omega) hn.2 y1 x2 (by rw [hv, ← hP2, Int.natAbs_mul, wv_abs, wv_abs])) (by omega)
    have cA : ∀ (V : World) (x y : List Nat) (X Y : Option Addr) (cx cy : Nat), Rd V (fun g => g < V.heap.size) .u32 X x → Rd V (fun g => g < V.heap.size) .u32 Y y → Norm 4294967296 x → Norm 4294967296 y → val 4294967296 x = P1.natAbs → val 4294967296 y = P2.natAbs → Calls Try.prog 64 #[.agg #[.bool (decide (P1 < 0)), .slice X x.length cx], .agg #[.bool (decide (P2 < 0)), .slice Y y.length cy]] V (fun e w' => GivesW P V e w' ∧ ∀ A xs c, e = .returned (.agg #[.bool (decide (P < 0)), .slice A xs.length c]) → Norm 4294967296 xs → val 4294967296 xs = P.natAbs → xs.length ≤ 4194304) := fun V x y X Y cx cy hx hy hn hm hv hu => by
      have lx := hl1 x hn hv
      have ly := hl2 y hm hu
      have := ref2_Add (decide (P1 < 0)) (decide (P2 < 0)) x y X Y cx cy V hx hy (by omega) (by omega) hn.1 hm.1
      rw [wv_dec hv, wv_dec hu, hP] at this
      refine this.mono fun e w' h => ⟨h, fun A xs c _ hnx hvx => ?_⟩
      have := len_sum (n := 4194300) hnx hn.1 hm.1 hvx (by rw [hv, hu, ← hP]; exact Int.natAbs_add_le _ _) lx ly
      omega
    have cR : ∀ (V : World) (x y : List Nat) (X Y : Option Addr) (cx cy : Nat), Rd V (fun g => g < V.heap.size) .u32 X x → Rd V (fun g => g < V.heap.size) .u32 Y y → Norm 4294967296 x → Norm 4294967296 y → val 4294967296 x = P.natAbs → val 4294967296 y = Q → x.length ≤ 4194304 → Calls Try.prog 60 #[.agg #[.bool (decide (P < 0)), .slice X x.length cx, .slice Y y.length cy]] V (GivesF P Q V) := fun V x y X Y cx cy hx hy hn hm hv hu lx => by
      have ly := len_mul (b := 4294967296) (by omega) hm.2 x2 y2 (by rw [hu, ← hQ])
      have := ref4_Reduce (decide (P < 0)) x y X Y cx cy V hx hy lx (by omega) hn.1 hm.1
      rwa [upN_of (by rw [hu]; exact hQ0), loD_of (by rw [hu]; exact hQ0), wv_dec hv, hu] at this
    have hPP : P = upN n a d * (loD d' : Int) + upN n' a' d' * (loD d : Int) := by rw [← hP, ← hP1, ← hP2, wv_false, wv_false, x5, y5, x6, y6]
    have hQQ : Q = loD d * loD d' := by rw [← hQ, x6, y6]
    have HPQ := Lib.hid (And.intro hPP hQQ)
    have CU1 := Lib.hid cU1
    have CU2 := Lib.hid cU2
    have CM1 := Lib.hid cM1
    have CM2 := Lib.hid cM2
    have CA := Lib.hid cA
    have CD := Lib.hid cD
    have CR := Lib.hid cR
    have HKU := Lib.hid kU
    have HKV := Lib.hid kV
    have HKR := Lib.hid kR
    have HBU := Lib.hid bU
    clear cU1 cU2 cM1 cM2 cA cD cR kU kV kR bU hO hP hP1 hP2 hPP hQQ hl1 hl2 hQ hQ0 hdp hdq r1 q1 r2 q2 C1 C2 HK1 HK2 HK3 HH K0 p0 p1 p2 p3 p4 p5 z0 z1 z2 z3 z4 z5 b0 s0 hlt x5 x6 y5 y6
    go_wp2_with fail
    go_region_held3 (fun w' => (w'.cell? ⟨w.heap.size, 0, none⟩ = some (.bool n1) ∧ w'.cell? ⟨w.heap.size, 1, none⟩ = some (.slice A1 a1.length c1) ∧ w'.cell? ⟨w.heap.size, 2, none⟩ = some (.slice D1 d1.length e1)) ∧ (w'.cell? ⟨w.heap.size + 1, 0, none⟩ = some (.bool n2) ∧ w'.cell? ⟨w.heap.size + 1, 1, none⟩ = some (.slice A2 a2.length c2) ∧ w'.cell? ⟨w.heap.size + 1, 2, none⟩ = some (.slice D2 d2.length e2)))
      (first | (with_reducible exact ⟨keep3 HKU.out K0', keep3 HKV.out K0'⟩) | (with_reducible exact ⟨keep3 HKU.out KA, keep3 HKV.out KA⟩) | (with_reducible exact ⟨keep3 HKU.out KB, keep3 HKV.out KB⟩) | (with_reducible exact ⟨keep3 HKU.out KC, keep3 HKV.out KC⟩) | (with_reducible exact ⟨keep3 HKU.out KD, keep3 HKV.out KD⟩) | (with_reducible exact ⟨keep3 HKU.out KE, keep3 HKV.out KE⟩) | (with_reducible exact ⟨keep3 HKU.out KF, keep3 HKV.out KF⟩) | (with_reducible exact ⟨keep3 HKU.out KG, keep3 HKV.out KG⟩) | (with_reducible exact ⟨far_cells (HKU.out.below KG HKU.out.lt) (by omega) _ _ _, far_cells (HKV.out.below KG HKV.out.lt) (by omega) _ _ _⟩) | go_keep)
      ((first
        | (go_at_call_of 45 (Value.slice A2 a2.length c2); (with_reducible refine Calls.mono (CU2.out _) ?_); rintro e w2 ⟨rfl, b2⟩; have KA := below_next K0' (Nat.le_refl _) b2)
        | (go_at_call_of 44 (Value.slice A1 a1.length c1); (with_reducible refine Calls.mono (CM1.out _ KA) ?_); rintro e w3 ⟨X, x, cx, rfl, hcx, hnx, hvx, rx, b3⟩; have KB := below_next KA (Nat.le_refl _) b3)
        | (go_at_call_of 45 (Value.slice A1 a1.length c1); (with_reducible refine Calls.mono (CU1.out _) ?_); rintro e w4 ⟨rfl, b4⟩; have KC := below_next KB (Nat.le_refl _) b4)
        | (go_at_call_of 44 (Value.slice A2 a2.length c2); (with_reducible refine Calls.mono (CM2.out _ KC) ?_); rintro e w5 ⟨Y, y, cy, rfl, hcy, hny, hvy, ry, b5⟩; have KD := below_next KC (Nat.le_refl _) b5)
        | (go_at_call 64; (with_reducible refine Calls.mono (CA.out _ x y X Y cx cy (rx.on (b4.trans (b5.mono b4.size))) ry hnx hny hvx hvy) ?_); rintro e w6 ⟨⟨S, s, cs, rfl, hcs, hns, hvs, rs, b6⟩, hlS⟩; have lS := hlS _ _ _ rfl hns hvs; have KE := below_next KD (Nat.le_refl _) b6)
        | (go_at_call 57; (with_reducible refine Calls.mono (CD.out _ KE) ?_); rintro e w7 ⟨T, t, ct, rfl, hct, hnt, hvt, rt, b7⟩; have KF := below_next KE (Nat.le_refl _) b7)
        | (go_at_call 60; (with_reducible refine Calls.mono (CR.out _ s t S T cs ct (rs.on b7) rt hns hnt hvs hvt lS) ?_); rintro e w8 ⟨A3, a3, c3, D3, d3, e3, rfl, hc3, hd3, hn3, hm3, hv3, hu3, r3, q3, b8⟩; have KG := below_next KF (Nat.le_refl _) b8; obtain ⟨i0, i1, i2, j0, j1, j2⟩ := (HKR.out.below KG HKR.out.lt).facts)))
    obtain ⟨Z, hZ, u0, u1, u2, hG⟩ := fin_frac (w := w) (HKR.out.below KG HKR.out.lt) (by omega) (HBU.out.trans (KG.mono HBU.out.size)) hc3 hd3 hn3 hm3 hv3 hu3 r3 q3
    have HZ := Lib.hid hZ
    have HF := Lib.hid (And.intro u0 (And.intro u1 u2))
    have HG := Lib.hid hG
    clear hZ u0 u1 u2 hG hv3 hu3 i0 i1 i2 j0 j1 j2 CM1 CM2 CU1 CU2 CA CD CR
    go_wp2_with fail
    rw [HZ.out]
    obtain ⟨u0, u1, u2⟩ := HF.out
    refine bodyPost_ret (v := .agg #[.bool (decide (P < 0)), .slice A3 a3.length c3, .slice D3 d3.length e3]) (by simp [results, Try.results49, go_sem, u0, u1, u2]) rfl ?_
    rw [← HPQ.out.1, ← HPQ.out.2]
    exact HG.out
end Go.Proofs.Ytbhahddgajkchaa
/- Fractions, the document's own: what Sub, Int and Half answer. -/

namespace Go.Proofs.Ytbhahddgajkchaa
open Go.RowKit Num

theorem GivesF.scale {P : Int} {Q k : Nat} {w w' : World} {e : Ending} (hk : 0 < k) (h : GivesF P Q w e w') : GivesF (P * (k : Int)) (Q * k) w e w' := by
  obtain ⟨A, a, ca, D, d, cd, he, h1, h2, h3, h4, h5, h6, h7⟩ := h
  have hn : (P * (k : Int)).natAbs = P.natAbs * k := by rw [Int.natAbs_mul, Int.natAbs_natCast]
  have hg : Nat.gcd (P.natAbs * k) (Q * k) = Nat.gcd P.natAbs Q * k := Nat.gcd_mul_right _ _ _
  have hs : decide (P * (k : Int) < 0) = decide (P < 0) := by
    rcases Int.lt_or_le P 0 with hp | hp
    · rw [decide_eq_true hp, decide_eq_true (Int.mul_neg_of_neg_of_pos hp (by omega))]
    · have := Int.mul_nonneg hp (show (0 : Int) ≤ (k : Int) by omega)
      rw [decide_eq_false (by omega), decide_eq_false (by omega)]
  refine ⟨A, a, ca, D, d, cd, by rw [hs]; exact he, h1, h2, h3, h4, ?_, ?_, h7⟩
  · rw [hn, hg, Nat.mul_div_mul_right _ _ hk]; exact h5
  · rw [hn, hg, Nat.mul_div_mul_right _ _ hk]; exact h6
/-- what a reduced fraction's parts are worth -/
theorem reduced_parts {P : Int} {Q : Nat} (hQ : 0 < Q) {a d : List Nat} (hv : val 4294967296 a = P.natAbs / Nat.gcd P.natAbs Q) (hu : val 4294967296 d = Q / Nat.gcd P.natAbs Q) :
    0 < Nat.gcd P.natAbs Q ∧ upN (decide (P < 0)) a d * (Nat.gcd P.natAbs Q : Int) = P ∧ loD d * Nat.gcd P.natAbs Q = Q := by
  have hg : 0 < Nat.gcd P.natAbs Q := Nat.gcd_pos_of_pos_right _ hQ
  have e1 : P.natAbs / Nat.gcd P.natAbs Q * Nat.gcd P.natAbs Q = P.natAbs := Nat.div_mul_cancel (Nat.gcd_dvd_left _ _)
  have e2 : Q / Nat.gcd P.natAbs Q * Nat.gcd P.natAbs Q = Q := Nat.div_mul_cancel (Nat.gcd_dvd_right _ _)
  have hd : 0 < val 4294967296 d := by
    rw [hu]
    rcases Nat.eq_zero_or_pos (Q / Nat.gcd P.natAbs Q) with h | h
    · rw [h] at e2; omega
    · exact h
  rw [← hv] at e1
  rw [← hu] at e2
  refine ⟨hg, ?_, by rw [loD_of hd]; exact e2⟩
  rw [upN_of hd]
  generalize Nat.gcd P.natAbs Q = g at *
  have e3 : (val 4294967296 a : Int) * (g : Int) = (P.natAbs : Int) := by rw [← Int.natCast_mul, e1]
  rcases Int.lt_or_le P 0 with hp | hp
  · rw [decide_eq_true hp, wv_true, Int.neg_mul, e3]; omega
  · rw [decide_eq_false (by omega), wv_false, e3]; omega

theorem up_abs (n : Bool) (a d : List Nat) : (upN n a d).natAbs ≤ val 4294967296 a := by
  unfold upN
  split
  · simp
  · rw [wv_abs]; exact Nat.le_refl _
/-- how long a reduced fraction's parts are -/
theorem reduced_len {n : Bool} {a d x y : List Nat} {m : Nat} (hx : Norm 4294967296 x) (hy : Norm 4294967296 y) (ha : Dg 4294967296 a) (hd : Dg 4294967296 d) (hl : a.length ≤ m) (hl' : d.length ≤ m) (hm : 1 ≤ m) {P : Int} {g : Nat} (hP : P.natAbs = (upN n a d).natAbs) (hv : val 4294967296 x = P.natAbs / g) (hu : val 4294967296 y = loD d / g) : x.length ≤ m ∧ y.length ≤ m := by
  constructor
  · exact Nat.le_trans (len_le (by omega) hx.2 ha (by rw [hv, hP]; exact Nat.le_trans (Nat.div_le_self _ _) (up_abs n a d))) hl
  · have h1 : val 4294967296 y ≤ loD d := by rw [hu]; exact Nat.div_le_self _ _
    rcases Nat.eq_zero_or_pos (val 4294967296 d) with h | h
    · have : loD d = 1 := by unfold loD; rw [if_pos h]
      exact Nat.le_trans (len_le (a := [1]) (by omega) hy.2 (dg_one (by omega)) (by rw [this] at h1; exact h1)) hm
    · rw [loD_of h] at h1
      exact Nat.le_trans (len_le (by omega) hy.2 hd h1) hl'

end Go.Proofs.Ytbhahddgajkchaa
