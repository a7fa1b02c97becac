/- The law FracDivs: quotients are the document's own. -/
import Derived.Test.YtidbpkibjficnaaGreatDoorZLawO
import Derived.Test.YtidbpkibjficnaaGreatDoorZFpW
import Derived.Test.YtidbpkibjficnaaGreatDoorZFpY
import Derived.Test.YtidbpkibjficnaaGreatDoorZFrZ
namespace Go.Proofs.YtidbpkibjficnaaGreatDoor
open Go.RowKit Num

/-- two answers that are one, word by word -/
theorem fit_two {P : Int} {Q m : Nat} {n n' : Bool} {A A' D D' : Option Addr} {la la' ca ca' ld ld' cd cd' : Nat} {c c' : Int} {w w' : World} (hP : P.natAbs < 4294967296 ^ m) (hQ : Q < 4294967296 ^ m) (F : Fit P Q n A la ca D ld cd c w) (F' : Fit P Q n' A' la' ca' D' ld' cd' c' w') :
    n = n' ∧ c = c' ∧ ∃ a d, la = a.length ∧ ld = d.length ∧ la' = a.length ∧ ld' = d.length ∧ a.length ≤ m ∧ d.length ≤ m ∧ Rd w (fun g => g < w.heap.size) .u32 A a ∧ Rd w (fun g => g < w.heap.size) .u32 D d ∧ Rd w' (fun g => g < w'.heap.size) .u32 A' a ∧ Rd w' (fun g => g < w'.heap.size) .u32 D' d := by
  rcases F with ⟨h0, rfl, rfl, rfl, rfl, rfl, rfl, rfl, rfl⟩ | ⟨h0, rfl, rfl, a, d, rfl, rfl, h1, h2, h3, h4, h5, h6, h7, h8⟩ <;> rcases F' with ⟨g0, rfl, rfl, rfl, rfl, rfl, rfl, rfl, rfl⟩ | ⟨g0, rfl, rfl, a', d', rfl, rfl, g1, g2, g3, g4, g5, g6, g7, g8⟩
  · exact ⟨rfl, rfl, [], [], rfl, rfl, rfl, rfl, by simp, by simp, Rd.nil, Rd.nil, Rd.nil, Rd.nil⟩
  · omega
  · omega
  · obtain rfl : a = a' := Norm.ext (by omega) h3 g3 (h5.trans g5.symm)
    obtain rfl : d = d' := Norm.ext (by omega) h4 g4 (h6.trans g6.symm)
    refine ⟨rfl, rfl, a, d, rfl, rfl, rfl, rfl, ?_, ?_, h7, h8, g7, g8⟩
    · refine h3.2.length_le (b := 4294967296) (by omega) ?_
      rw [h5]; exact Nat.lt_of_le_of_lt (Nat.div_le_self _ _) hP
    · refine h4.2.length_le (b := 4294967296) (by omega) ?_
      rw [h6]; exact Nat.lt_of_le_of_lt (Nat.div_le_self _ _) hQ
theorem across_abs (P1 P2 : Int) : (acrossN P1 P2).natAbs = P1.natAbs := by
  unfold acrossN
  split
  · exact Int.natAbs_neg _
  · rfl
theorem Fit.on {P : Int} {Q : Nat} {n : Bool} {A D : Option Addr} {la ca ld cd : Nat} {c : Int} {w w' : World} (F : Fit P Q n A la ca D ld cd c w) (b : Below w.heap.size w w') : Fit P Q n A la ca D ld cd c w' := by
  rcases F with h | ⟨h0, h1, h2, a, d, k1, k2, k3, k4, k5, k6, k7, k8, r, q⟩
  · exact .inl h
  · exact .inr ⟨h0, h1, h2, a, d, k1, k2, k3, k4, k5, k6, k7, k8, r.on b, q.on b⟩

theorem keep8 {W V : World} {g : Nat} {t : TypeId} {a0 a1 a2 a3 a4 a5 a6 a7 : Value} (k : Blk W g t [a0, a1, a2, a3, a4, a5, a6, a7]) (hb : Below W.heap.size W V) : V.cell? ⟨g, 0, none⟩ = some a0 ∧ V.cell? ⟨g, 1, none⟩ = some a1 ∧ V.cell? ⟨g, 2, none⟩ = some a2 ∧ V.cell? ⟨g, 3, none⟩ = some a3 ∧ V.cell? ⟨g, 4, none⟩ = some a4 ∧ V.cell? ⟨g, 5, none⟩ = some a5 ∧ V.cell? ⟨g, 6, none⟩ = some a6 ∧ V.cell? ⟨g, 7, none⟩ = some a7 := by
  have k' := k.below hb k.lt
  exact ⟨k'.cell 0 rfl, k'.cell 1 rfl, k'.cell 2 rfl, k'.cell 3 rfl, k'.cell 4 rfl, k'.cell 5 rfl, k'.cell 6 rfl, k'.cell 7 rfl⟩

set_option maxRecDepth 100000 in
set_option maxHeartbeats 25600000 in
theorem walk_FracDivs (n n' : Bool) (a d a' d' : List Nat) (A D A' D' : Option Addr) (ca cd ca' cd' : Nat) (x y : Int) (w : World) (h : Rd w (fun g => g < w.heap.size) .u32 A a) (h' : Rd w (fun g => g < w.heap.size) .u32 D d) (q : Rd w (fun g => g < w.heap.size) .u32 A' a') (q' : Rd w (fun g => g < w.heap.size) .u32 D' d') (hl : a.length + d.length + a'.length + d'.length ≤ 1048576) (hc : a.length ≤ ca) (hc' : d.length ≤ cd) (gc : a'.length ≤ ca') (gc' : d'.length ≤ cd') (ha : Dg 4294967296 a) (hd : Dg 4294967296 d) (ga : Dg 4294967296 a') (gd : Dg 4294967296 d') (hx1 : -9223372036854775808 ≤ x) (hx2 : x ≤ 9223372036854775807) (hy1 : -9223372036854775808 ≤ y) (hy2 : y ≤ 9223372036854775807) (htab : Tab w) :
    Calls Tryz.prog 4 #[.agg #[.bool n, .slice A a.length ca, .slice D d.length cd, .bool n', .slice A' a'.length ca', .slice D' d'.length cd', .int .i64 x, .int .i64 y]] w fun e w' => e = .returned (.bool true) ∧ Below w.heap.size w w' := by
  obtain ⟨U, hU, kU, bU⟩ : ∃ U, w.alloc (.cells #[.bool n, .slice A a.length ca, .slice D d.length cd, .bool n', .slice A' a'.length ca', .slice D' d'.length cd', .int .i64 x, .int .i64 y] 35) = U ∧ Blk U w.heap.size 35 [.bool n, .slice A a.length ca, .slice D d.length cd, .bool n', .slice A' a'.length ca', .slice D' d'.length cd', .int .i64 x, .int .i64 y] ∧ Below w.heap.size w U := ⟨_, rfl, Blk.new w _ _, below_new w _⟩
  have K0 : Below U.heap.size U U.drew := below_drewN (Below.refl _ _) 1
  have hQ := loD_pos d
  have hQ' := loD_pos d'
  have bP := up_lt (n := n) (d := d) ha
  have bP' := up_lt (n := n') (d := d') ga
  have bQ := loD_le hd
  have bQ' := loD_le gd
  obtain ⟨s, hs⟩ : ∃ s, s = 1048576 := ⟨_, rfl⟩
  rw [← hs] at hl
  obtain ⟨P, hP⟩ : ∃ P, upN n a d = P := ⟨_, rfl⟩
  obtain ⟨P', hP'⟩ : ∃ P, upN n' a' d' = P := ⟨_, rfl⟩
  obtain ⟨Q, hQe⟩ : ∃ Q, loD d = Q := ⟨_, rfl⟩
  obtain ⟨Q', hQe'⟩ : ∃ Q, loD d' = Q := ⟨_, rfl⟩
  have hS : SV P Q (s + 1) n a ca d cd := ⟨hc, hc', ha, hd, by omega, by omega, by rw [hP, hQe]⟩
  have hT : SV P' Q' (s + 1) n' a' ca' d' cd' := ⟨gc, gc', ga, gd, by omega, by omega, by rw [hP', hQe']⟩
  rw [hP] at bP
  rw [hP'] at bP'
  rw [hQe] at bQ hQ
  rw [hQe'] at bQ' hQ'
  obtain ⟨N1, hN1⟩ : ∃ N, acrossN (P * (Q' : Int)) (P' * (Q : Int)) = N := ⟨_, rfl⟩
  obtain ⟨M1, hM1⟩ : ∃ N, (P' * (Q : Int)).natAbs = N := ⟨_, rfl⟩
  obtain ⟨N2, hN2⟩ : ∃ N, acrossN x y = N := ⟨_, rfl⟩
  obtain ⟨M2, hM2⟩ : ∃ N, y.natAbs = N := ⟨_, rfl⟩
  obtain ⟨N3, hN3⟩ : ∃ N, wv (!(n == n')) a = N := ⟨_, rfl⟩
  obtain ⟨M3, hM3⟩ : ∃ N, val 4294967296 a' = N := ⟨_, rfl⟩
  have bN1 : N1.natAbs < 4294967296 ^ (s + 1) := by
    rw [← hN1, across_abs, Int.natAbs_mul, Int.natAbs_natCast]
    exact Nat.lt_of_lt_of_le (prod_lt bP bQ' (Nat.le_refl _)) (Nat.pow_le_pow_right (by omega) (by omega))
  have bM1 : M1 < 4294967296 ^ (s + 1) := by
    rw [← hM1, Int.natAbs_mul, Int.natAbs_natCast]
    exact Nat.lt_of_lt_of_le (prod_lt bP' bQ (Nat.le_refl _)) (Nat.pow_le_pow_right (by omega) (by omega))
  have b2 : 9223372036854775808 < 4294967296 ^ (s + 1) := Nat.lt_of_lt_of_le (by decide) (Nat.pow_le_pow_right (n := 4294967296) (i := 2) (by omega) (by omega))
  have bN2 : N2.natAbs < 4294967296 ^ (s + 1) := by rw [← hN2, across_abs]; omega
  have bM2 : M2 < 4294967296 ^ (s + 1) := by omega
  have bN3 : N3.natAbs < 4294967296 ^ (s + 1) := by
    rw [← hN3, wv_abs]
    exact Nat.lt_of_lt_of_le (val_lt ha) (Nat.pow_le_pow_right (by omega) (by omega))
  have bM3 : M3 < 4294967296 ^ (s + 1) := by
    rw [← hM3]
    exact Nat.lt_of_lt_of_le (val_lt ga) (Nat.pow_le_pow_right (by omega) (by omega))
  have bPs : P.natAbs < 4294967296 ^ (s + 1) := Nat.lt_of_lt_of_le bP (Nat.pow_le_pow_right (by omega) (by omega))
  have bQs : Q < 4294967296 ^ (s + 1) := lt_of_le_pow bQ (by omega)
  have b1 : 1 < 4294967296 ^ (s + 1) := by omega
  have bx : x.natAbs < 4294967296 ^ (s + 1) := by omega
  have HU := Lib.hid hU
  have HKU := Lib.hid kU
  have HBU := Lib.hid bU
  have HR := Lib.hid (And.intro (And.intro (h.on bU) (h'.on bU)) (And.intro (q.on bU) (q'.on bU)))
  have HTAB := Lib.hid htab
  have c1 := fun (V : World) (r : Rd V (fun g => g < V.heap.size) .u32 A a) (r' : Rd V (fun g => g < V.heap.size) .u32 D d) (t : Rd V (fun g => g < V.heap.size) .u32 A' a') (t' : Rd V (fun g => g < V.heap.size) .u32 D' d') => fv_Div P P' Q Q' (s + 1) hQ hQ' (by omega) (by omega) n n' a d a' d' A D A' D' ca cd ca' cd' V hS hT r r' t t'
  have c2 := fun (V : World) (r : Rd V (fun g => g < V.heap.size) .u32 A a) (r' : Rd V (fun g => g < V.heap.size) .u32 D d) (t : Rd V (fun g => g < V.heap.size) .u32 A' a') (t' : Rd V (fun g => g < V.heap.size) .u32 D' d') => ref4_Div n n' a d a' d' A D A' D' ca cd ca' cd' V r r' t t' (by omega) (by omega) (by omega) (by omega) ha hd ga gd
  simp only [hP, hP', hQe, hQe'] at c2
  simp only [hN1, hM1] at c1 c2
  have c3 := fun (V : World) => frac_Of x y hx1 hx2 hy1 hy2 N2 M2 hN2 hM2 V
  have c4 := fun (V : World) => ref2_Of x hx1 hx2 V
  have c5 := fun (V : World) => ref2_Of y hy1 hy2 V
  have c6 : ∀ (V : World) (u v : List Nat) (X Y : Option Addr) (cx cy : Nat), Rd V (fun g => g < V.heap.size) .u32 X u → Rd V (fun g => g < V.heap.size) .u32 Y v → Norm 4294967296 u → Norm 4294967296 v → val 4294967296 u = x.natAbs → val 4294967296 v = y.natAbs → Calls Tryz.prog 25 #[.agg #[.bool (decide (x < 0)), .slice X u.length cx], .agg #[.bool (decide (y < 0)), .slice Y v.length cy]] V (GivesFE N2 M2 V) := fun V u v X Y cx cy r r' hn hm hv hu => by
    have lu := hn.2.length_le (b := 4294967296) (n := 2) (by omega) (by rw [hv]; omega)
    have lv := hm.2.length_le (b := 4294967296) (n := 2) (by omega) (by rw [hu]; omega)
    have := ref4_Make (decide (x < 0)) (decide (y < 0)) u v X Y cx cy V r r' (by omega) (by omega) hn.1 hm.1
    rwa [wv_across hv, hu, hN2, hM2] at this
  have c7 := fun (V : World) (r : Rd V (fun g => g < V.heap.size) .u32 A a) (t : Rd V (fun g => g < V.heap.size) .u32 A' a') => frac_Make n n' a a' A A' ca ca' V r t (by omega) (by omega) hc gc ha ga
  have c8 := fun (V : World) (r : Rd V (fun g => g < V.heap.size) .u32 A a) (t : Rd V (fun g => g < V.heap.size) .u32 A' a') => ref4_Make n n' a a' A A' ca ca' V r t (by omega) (by omega) ha ga
  simp only [hN3, hM3] at c7 c8
  have c9 := fun (V : World) => (frac_Int x hx1 hx2 V).mono fun _ _ => Gv.imp fun _ _ _ _ _ => SF.toG (m := s + 1) bx b1
  have c10 := fun (V : World) => (ref4_Int x hx1 hx2 V).mono fun _ _ hh => (gv_of_f hh).imp fun _ _ _ _ _ => SF.toG (m := s + 1) bx b1
  have c11 := fun (V : World) (r : Rd V (fun g => g < V.heap.size) .u32 A a) (r' : Rd V (fun g => g < V.heap.size) .u32 D d) => (fv_Reduce P Q (s + 1) hQ (by omega) (by omega) n a d A D ca cd V hS r r').mono fun _ _ => Gv.imp fun _ _ _ _ _ => SF.toG bPs bQs
  have c12 := fun (V : World) (r : Rd V (fun g => g < V.heap.size) .u32 A a) (r' : Rd V (fun g => g < V.heap.size) .u32 D d) => (rv_Reduce P Q (s + 1) hQ (by omega) n a d A D ca cd V hS r r').mono fun _ _ => Gv.imp fun _ _ _ _ _ => SF.toG bPs bQs
  have ft1 := @fit_two N1 M1 (s + 1)
  have ft2 := @fit_two N2 M2 (s + 1)
  have ft3 := @fit_two N3 M3 (s + 1)
  have C1 := Lib.hid c1
  have C2 := Lib.hid c2
  have C3 := Lib.hid c3
  have C4 := Lib.hid c4
  have C5 := Lib.hid c5
  have C6 := Lib.hid c6
  have C7 := Lib.hid c7
  have C8 := Lib.hid c8
  have C9 := Lib.hid c9
  have C10 := Lib.hid c10
  have C11 := Lib.hid c11
  have C12 := Lib.hid c12
  have F1 := Lib.hid (And.intro bN1 bM1)
  have F2 := Lib.hid (And.intro bN2 bM2)
  have F3 := Lib.hid (And.intro bN3 bM3)
  have es : s + 1 ≤ 1048577 := by omega
  obtain ⟨x0, x1, x2, x3, x4, x5, x6, x7⟩ : U.cell? ⟨w.heap.size, 0, none⟩ = some (.bool n) ∧ U.cell? ⟨w.heap.size, 1, none⟩ = some (.slice A a.length ca) ∧ U.cell? ⟨w.heap.size, 2, none⟩ = some (.slice D d.length cd) ∧ U.cell? ⟨w.heap.size, 3, none⟩ = some (.bool n') ∧ U.cell? ⟨w.heap.size, 4, none⟩ = some (.slice A' a'.length ca') ∧ U.cell? ⟨w.heap.size, 5, none⟩ = some (.slice D' d'.length cd') ∧ U.cell? ⟨w.heap.size, 6, none⟩ = some (.int .i64 x) ∧ U.cell? ⟨w.heap.size, 7, none⟩ = some (.int .i64 y) := ⟨kU.cell 0 rfl, kU.cell 1 rfl, kU.cell 2 rfl, kU.cell 3 rfl, kU.cell 4 rfl, kU.cell 5 rfl, kU.cell 6 rfl, kU.cell 7 rfl⟩
  clear c1 c2 c3 c4 c5 c6 c7 c8 c9 c10 c11 c12 ft1 ft2 ft3 bN1 bM1 bN2 bM2 bN3 bM3 bPs bQs b1 b2 bx bP bP' bQ bQ' hP hP' hQe hQe' hN1 hM1 hN2 hM2 hN3 hM3 hS hT hQ hQ' h h' q q' hs htab hU kU bU
  go_enter Tryz.func4, Tryz.ntmps4
  go_wp2_with fail
  rw [HU.out]
  go_cut [3, 4, 5, 6] from 7 (fun v3 v4 v5 v6 wc => ∃ g3 g4, v3 = .pointer (some ⟨g3, 0, none⟩) ∧ v4 = .pointer (some ⟨g4, 0, none⟩) ∧ v5 = .int .i64 x ∧ v6 = .int .i64 y ∧ Blk wc g3 26 [.bool n, .slice A a.length ca, .slice D d.length cd] ∧ Blk wc g4 26 [.bool n', .slice A' a'.length ca', .slice D' d'.length cd'] ∧ (Rd wc (fun g => g < wc.heap.size) .u32 A a ∧ Rd wc (fun g => g < wc.heap.size) .u32 D d) ∧ (Rd wc (fun g => g < wc.heap.size) .u32 A' a' ∧ Rd wc (fun g => g < wc.heap.size) .u32 D' d') ∧ Below U.heap.size U wc)
  case first =>
    go_region_held3 (fun w' => w'.cell? ⟨w.heap.size, 0, none⟩ = some (.bool n) ∧ w'.cell? ⟨w.heap.size, 1, none⟩ = some (.slice A a.length ca) ∧ w'.cell? ⟨w.heap.size, 2, none⟩ = some (.slice D d.length cd) ∧ w'.cell? ⟨w.heap.size, 3, none⟩ = some (.bool n') ∧ w'.cell? ⟨w.heap.size, 4, none⟩ = some (.slice A' a'.length ca') ∧ w'.cell? ⟨w.heap.size, 5, none⟩ = some (.slice D' d'.length cd') ∧ w'.cell? ⟨w.heap.size, 6, none⟩ = some (.int .i64 x) ∧ w'.cell? ⟨w.heap.size, 7, none⟩ = some (.int .i64 y))
      (first | (refine keep8 HKU.out ?_; first | (with_reducible exact K0) | ((repeat (first | (with_reducible refine Below.setCell ?_ (by dsimp only; first | omega | exact Nat.le_refl _ | (simp [World.setCell])) _) | (with_reducible refine Below.alloc ?_ (by first | exact Nat.le_refl _ | omega | (simp [World.setCell]; done) | (simp [World.setCell]; omega)) _))); with_reducible exact K0)) | go_keep)
      (fail)
    all_goals
      go_wp2_with fail
      go_meet
      refine ⟨_, _, rfl, rfl, rfl, rfl, ?_⟩
      first
        | exact endA (W := U) (w3 := U.drew) K0 _ _ _ (HR.out.1.1.on K0) (HR.out.1.2.on K0) _ _ _ (HR.out.2.1.on K0) (HR.out.2.2.on K0)
        | exact endA' (W := U) (w3 := U.drew) K0 _ _ _ (HR.out.1.1.on K0) (HR.out.1.2.on K0) _ _ _ (HR.out.2.1.on K0) (HR.out.2.2.on K0)
  case rest =>
    obtain ⟨g3, g4, rfl, rfl, rfl, rfl, k3, k4, ⟨r1, r2⟩, ⟨r3, r4⟩, KB⟩ := hcut
    have BW : Below w.heap.size w wc := HBU.out.trans (KB.mono HBU.out.size)
    have HBW := Lib.hid BW
    have H3 := Lib.hid k3
    have H4 := Lib.hid k4
    have R := Lib.hid (fun (V : World) (hV : Below wc.heap.size wc V) => And.intro (And.intro (r1.on hV) (r2.on hV)) (And.intro (r3.on hV) (r4.on hV)))
    have L := Lib.hid (fun (V : World) (hV : Below wc.heap.size wc V) => (law4_lives V (HTAB.out.on (BW.trans (hV.mono BW.size)))))
    obtain ⟨p0, p1, p2⟩ := keep3 k3 (Below.refl _ _)
    obtain ⟨z0, z1, z2⟩ := keep3 k4 (Below.refl _ _)
    clear k3 k4 r1 r2 r3 r4 KB BW x0 x1 x2 x3 x4 x5 x6 x7 K0 HU HKU HBU HR
    go_wp2_with fail
    refine Calls.mono (C1.out _ (R.out _ (Below.refl wc.heap.size wc)).1.1 (R.out _ (Below.refl wc.heap.size wc)).1.2 (R.out _ (Below.refl wc.heap.size wc)).2.1 (R.out _ (Below.refl wc.heap.size wc)).2.2) ?_
    rintro e w1 hE
    obtain ⟨n1, A1, la1, ca1, D1, ld1, cd1, er1, rfl, f1, b1⟩ := hE.one
    clear hE
    have T1 := below_next (Below.refl wc.heap.size wc) (Nat.le_refl _) b1
    obtain ⟨V1, hV1, kV1, bV1, sV1⟩ := bx1 w1 26 (.bool n1) (.slice A1 la1 ca1) (.slice D1 ld1 cd1)
    have K1 := below_next T1 (Nat.le_refl _) bV1
    have G1 := Lib.hid (f1.on bV1)
    have HK1 := Lib.hid kV1
    have HV1 := Lib.hid hV1
    clear hV1 kV1 f1 p0 p1 p2 z0 z1 z2
    obtain ⟨p0, p1, p2⟩ := keep3 H3.out T1
    obtain ⟨z0, z1, z2⟩ := keep3 H4.out T1
    have y3 := (H3.out.below T1 H3.out.lt).lt
    have y4 := (H4.out.below T1 H4.out.lt).lt
    have hidden1 : True := trivial
    clear hidden1
    go_wp2_with fail
    rw [HV1.out]
    refine Calls.mono (C2.out V1 (R.out _ K1).1.1 (R.out _ K1).1.2 (R.out _ K1).2.1 (R.out _ K1).2.2) ?_
    rintro e w2 hE
    obtain ⟨n2, A2, la2, ca2, D2, ld2, cd2, er2, rfl, f2, b2⟩ := hE.one
    clear hE
    have T2 := below_next K1 (Nat.le_refl _) b2
    obtain ⟨V2, hV2, kV2, bV2, sV2⟩ := bx1 w2 26 (.bool n2) (.slice A2 la2 ca2) (.slice D2 ld2 cd2)
    have K2 := below_next T2 (Nat.le_refl _) bV2
    have G2 := Lib.hid (f2.on bV2)
    have HK2 := Lib.hid kV2
    have HV2 := Lib.hid hV2
    clear hV2 kV2 f2 p0 p1 p2 z0 z1 z2 y3 y4
    obtain ⟨p0, p1, p2⟩ := keep3 H3.out T2
    obtain ⟨z0, z1, z2⟩ := keep3 H4.out T2
    have y3 := (H3.out.below T2 H3.out.lt).lt
    have y4 := (H4.out.below T2 H4.out.lt).lt
    have hidden2 : True := trivial
    clear hidden2
    go_wp2_with fail
    rw [HV2.out]
    refine Calls.mono (C3.out V2) ?_
    rintro e w3 hE
    obtain ⟨n3, A3, la3, ca3, D3, ld3, cd3, er3, rfl, f3, b3⟩ := hE.one
    clear hE
    have T3 := below_next K2 (Nat.le_refl _) b3
    obtain ⟨V3, hV3, kV3, bV3, sV3⟩ := bx1 w3 26 (.bool n3) (.slice A3 la3 ca3) (.slice D3 ld3 cd3)
    have K3 := below_next T3 (Nat.le_refl _) bV3
    have G3 := Lib.hid (f3.on bV3)
    have HK3 := Lib.hid kV3
    have HV3 := Lib.hid hV3
    clear hV3 kV3 f3 p0 p1 p2 z0 z1 z2 y3 y4
    obtain ⟨p0, p1, p2⟩ := keep3 H3.out T3
    obtain ⟨z0, z1, z2⟩ := keep3 H4.out T3
    have y3 := (H3.out.below T3 H3.out.lt).lt
    have y4 := (H4.out.below T3 H4.out.lt).lt
    have hidden3 : True := trivial
    clear hidden3
    go_wp2_with fail
    rw [HV3.out]
    refine Calls.mono (C4.out V3) ?_
    rintro e w8 ⟨X8, x8, c8, rfl, hc8, hn8, hv8, r8, b8⟩
    have K8 := below_next K3 (Nat.le_refl _) b8
    have G8 := Lib.hid (And.intro hn8 hv8)
    clear hn8 hv8
    go_wp2_with fail
    refine Calls.mono (C5.out w8) ?_
    rintro e w9 ⟨X9, x9, c9, rfl, hc9, hn9, hv9, r9, b9⟩
    have K9 := below_next K8 (Nat.le_refl _) b9
    have cm := C6.out w9 x8 x9 X8 X9 c8 c9 (r8.on b9) r9 G8.out.1 hn9 G8.out.2 hv9
    clear hn9 hv9
    go_wp2_with fail
    refine Calls.mono (cm) ?_
    rintro e w4 hE
    obtain ⟨n4, A4, la4, ca4, D4, ld4, cd4, er4, rfl, f4, b4⟩ := hE.one
    clear hE
    have T4 := below_next K9 (Nat.le_refl _) b4
    obtain ⟨V4, hV4, kV4, bV4, sV4⟩ := bx1 w4 26 (.bool n4) (.slice A4 la4 ca4) (.slice D4 ld4 cd4)
    have K4 := below_next T4 (Nat.le_refl _) bV4
    have G4 := Lib.hid (f4.on bV4)
    have HK4 := Lib.hid kV4
    have HV4 := Lib.hid hV4
    clear hV4 kV4 f4 p0 p1 p2 z0 z1 z2 y3 y4
    obtain ⟨p0, p1, p2⟩ := keep3 H3.out T4
    obtain ⟨z0, z1, z2⟩ := keep3 H4.out T4
    have y3 := (H3.out.below T4 H3.out.lt).lt
    have y4 := (H4.out.below T4 H4.out.lt).lt
    have hidden4 : True := trivial
    clear hidden4 cm
    go_wp2_with fail
    rw [HV4.out]
    refine Calls.mono (C7.out V4 (R.out _ K4).1.1 (R.out _ K4).2.1) ?_
    rintro e w5 hE
    obtain ⟨n5, A5, la5, ca5, D5, ld5, cd5, er5, rfl, f5, b5⟩ := hE.one
    clear hE
    have T5 := below_next K4 (Nat.le_refl _) b5
    obtain ⟨V5, hV5, kV5, bV5, sV5⟩ := bx1 w5 26 (.bool n5) (.slice A5 la5 ca5) (.slice D5 ld5 cd5)
    have K5 := below_next T5 (Nat.le_refl _) bV5
    have G5 := Lib.hid (f5.on bV5)
    have HK5 := Lib.hid kV5
    have HV5 := Lib.hid hV5
    clear hV5 kV5 f5 p0 p1 p2 z0 z1 z2 y3 y4
    obtain ⟨p0, p1, p2⟩ := keep3 H3.out T5
    obtain ⟨z0, z1, z2⟩ := keep3 H4.out T5
    have y3 := (H3.out.below T5 H3.out.lt).lt
    have y4 := (H4.out.below T5 H4.out.lt).lt
    have hidden5 : True := trivial
    clear hidden5
    go_wp2_with fail
    rw [HV5.out]
    refine Calls.mono (C8.out V5 (R.out _ K5).1.1 (R.out _ K5).2.1) ?_
    rintro e w6 hE
    obtain ⟨n6, A6, la6, ca6, D6, ld6, cd6, er6, rfl, f6, b6⟩ := hE.one
    clear hE
    have T6 := below_next K5 (Nat.le_refl _) b6
    obtain ⟨V6, hV6, kV6, bV6, sV6⟩ := bx1 w6 26 (.bool n6) (.slice A6 la6 ca6) (.slice D6 ld6 cd6)
    have K6 := below_next T6 (Nat.le_refl _) bV6
    have G6 := Lib.hid (f6.on bV6)
    have HK6 := Lib.hid kV6
    have HV6 := Lib.hid hV6
    clear hV6 kV6 f6 p0 p1 p2 z0 z1 z2 y3 y4
    obtain ⟨p0, p1, p2⟩ := keep3 H3.out T6
    obtain ⟨z0, z1, z2⟩ := keep3 H4.out T6
    have y3 := (H3.out.below T6 H3.out.lt).lt
    have y4 := (H4.out.below T6 H4.out.lt).lt
    have hidden6 : True := trivial
    clear hidden6
    have d12 : Below V1.heap.size V1 V2 := b2.trans (bV2.mono b2.size)
    have d23 : Below V2.heap.size V2 V3 := b3.trans (bV3.mono b3.size)
    have d34 : Below V3.heap.size V3 V4 := ((b8.trans (b9.mono b8.size)).trans (b4.mono (Nat.le_trans b8.size b9.size))).trans (bV4.mono (Nat.le_trans (Nat.le_trans b8.size b9.size) b4.size))
    have d45 : Below V4.heap.size V4 V5 := b5.trans (bV5.mono b5.size)
    have d56 : Below V5.heap.size V5 V6 := b6.trans (bV6.mono b6.size)
    have d46 := below_next d45 (Nat.le_refl _) d56
    have d36 := below_next d34 (Nat.le_refl _) d46
    have d26 := below_next d23 (Nat.le_refl _) d36
    have d16 := below_next d12 (Nat.le_refl _) d26
    obtain ⟨rfl, rfl, u1, v1, rfl, rfl, rfl, rfl, lu1, lv1, i1, j1, i1', j1'⟩ := fit_two F1.out.1 F1.out.2 (G1.out.on d16) (G2.out.on d26)
    obtain ⟨rfl, rfl, u2, v2, rfl, rfl, rfl, rfl, lu2, lv2, i2, j2, i2', j2'⟩ := fit_two F2.out.1 F2.out.2 (G3.out.on d36) (G4.out.on d46)
    obtain ⟨rfl, rfl, u3, v3, rfl, rfl, rfl, rfl, lu3, lv3, i3, j3, i3', j3'⟩ := fit_two F3.out.1 F3.out.2 (G5.out.on d56) G6.out
    have k1 := HK1.out.below d16 HK1.out.lt
    have k2 := HK2.out.below d26 HK2.out.lt
    have k3 := HK3.out.below d36 HK3.out.lt
    have k4 := HK4.out.below d46 HK4.out.lt
    have k5 := HK5.out.below d56 HK5.out.lt
    have k6 := HK6.out
    have k0 := H3.out.below K6 H3.out.lt
    have HL := Lib.hid (And.intro k1 (And.intro k2 (And.intro k3 (And.intro k4 (And.intro k5 (And.intro k6 k0))))))
    have HRR := Lib.hid (And.intro (And.intro (And.intro i1 j1) (And.intro i1' j1')) (And.intro (And.intro (And.intro i2 j2) (And.intro i2' j2')) (And.intro (And.intro i3 j3) (And.intro i3' j3'))))
    obtain ⟨k10, k11, k12⟩ := keep3 k1 (Below.refl _ _)
    obtain ⟨k20, k21, k22⟩ := keep3 k2 (Below.refl _ _)
    obtain ⟨k30, k31, k32⟩ := keep3 k3 (Below.refl _ _)
    obtain ⟨k40, k41, k42⟩ := keep3 k4 (Below.refl _ _)
    obtain ⟨k50, k51, k52⟩ := keep3 k5 (Below.refl _ _)
    obtain ⟨k60, k61, k62⟩ := keep3 k6 (Below.refl _ _)
    have B6 := Lib.hid K6
    have M0 : Below V6.heap.size V6 V6.drew := below_drewN (Below.refl _ _) 1
    clear d12 d23 d34 d45 d56 d46 d36 d26 d16 i1 j1 i1' j1' i2 j2 i2' j2' i3 j3 i3' j3' k1 k2 k3 k4 k5 k6 k0 HK1 HK2 HK3 HK4 HK5 HK6 G1 G2 G3 G4 G5 G6 F1 F2 F3 C1 C2 C3 C4 C5 C6 C7 C8 H4 z0 z1 z2 K1 K2 K3 K4 K5 K6 K8 K9 T1 T2 T3 T4 T5 T6 b1 b2 b3 b4 b5 b6 b8 b9 bV1 bV2 bV3 bV4 bV5 bV6 sV1 sV2 sV3 sV4 sV5 sV6
    go_wp2_with fail
    rw [HV6.out]
    go_region_held3 (fun w' => (w'.cell? ⟨w1.heap.size, 0, none⟩ = some (.bool n1) ∧ w'.cell? ⟨w1.heap.size, 1, none⟩ = some (.slice A1 u1.length ca1) ∧ w'.cell? ⟨w1.heap.size, 2, none⟩ = some (.slice D1 v1.length cd1)) ∧ (w'.cell? ⟨w2.heap.size, 0, none⟩ = some (.bool n1) ∧ w'.cell? ⟨w2.heap.size, 1, none⟩ = some (.slice A2 u1.length ca2) ∧ w'.cell? ⟨w2.heap.size, 2, none⟩ = some (.slice D2 v1.length cd2)) ∧ (w'.cell? ⟨w3.heap.size, 0, none⟩ = some (.bool n3) ∧ w'.cell? ⟨w3.heap.size, 1, none⟩ = some (.slice A3 u2.length ca3) ∧ w'.cell? ⟨w3.heap.size, 2, none⟩ = some (.slice D3 v2.length cd3)) ∧ (w'.cell? ⟨w4.heap.size, 0, none⟩ = some (.bool n3) ∧ w'.cell? ⟨w4.heap.size, 1, none⟩ = some (.slice A4 u2.length ca4) ∧ w'.cell? ⟨w4.heap.size, 2, none⟩ = some (.slice D4 v2.length cd4)) ∧ (w'.cell? ⟨w5.heap.size, 0, none⟩ = some (.bool n5) ∧ w'.cell? ⟨w5.heap.size, 1, none⟩ = some (.slice A5 u3.length ca5) ∧ w'.cell? ⟨w5.heap.size, 2, none⟩ = some (.slice D5 v3.length cd5)) ∧ (w'.cell? ⟨w6.heap.size, 0, none⟩ = some (.bool n5) ∧ w'.cell? ⟨w6.heap.size, 1, none⟩ = some (.slice A6 u3.length ca6) ∧ w'.cell? ⟨w6.heap.size, 2, none⟩ = some (.slice D6 v3.length cd6)) ∧ (w'.cell? ⟨g3, 0, none⟩ = some (.bool n) ∧ w'.cell? ⟨g3, 1, none⟩ = some (.slice A a.length ca) ∧ w'.cell? ⟨g3, 2, none⟩ = some (.slice D d.length cd)))
      (first | (with_reducible exact ⟨keep3 HL.out.1 M0, keep3 HL.out.2.1 M0, keep3 HL.out.2.2.1 M0, keep3 HL.out.2.2.2.1 M0, keep3 HL.out.2.2.2.2.1 M0, keep3 HL.out.2.2.2.2.2.1 M0, keep3 HL.out.2.2.2.2.2.2 M0⟩) | (with_reducible exact ⟨keep3 HL.out.1 M1, keep3 HL.out.2.1 M1, keep3 HL.out.2.2.1 M1, keep3 HL.out.2.2.2.1 M1, keep3 HL.out.2.2.2.2.1 M1, keep3 HL.out.2.2.2.2.2.1 M1, keep3 HL.out.2.2.2.2.2.2 M1⟩) | (with_reducible exact ⟨keep3 HL.out.1 M2, keep3 HL.out.2.1 M2, keep3 HL.out.2.2.1 M2, keep3 HL.out.2.2.2.1 M2, keep3 HL.out.2.2.2.2.1 M2, keep3 HL.out.2.2.2.2.2.1 M2, keep3 HL.out.2.2.2.2.2.2 M2⟩) | (with_reducible exact ⟨keep3 HL.out.1 M3, keep3 HL.out.2.1 M3, keep3 HL.out.2.2.1 M3, keep3 HL.out.2.2.2.1 M3, keep3 HL.out.2.2.2.2.1 M3, keep3 HL.out.2.2.2.2.2.1 M3, keep3 HL.out.2.2.2.2.2.2 M3⟩) | (with_reducible exact ⟨keep3 HL.out.1 M4, keep3 HL.out.2.1 M4, keep3 HL.out.2.2.1 M4, keep3 HL.out.2.2.2.1 M4, keep3 HL.out.2.2.2.2.1 M4, keep3 HL.out.2.2.2.2.2.1 M4, keep3 HL.out.2.2.2.2.2.2 M4⟩) | (with_reducible exact ⟨keep3 HL.out.1 M5, keep3 HL.out.2.1 M5, keep3 HL.out.2.2.1 M5, keep3 HL.out.2.2.2.1 M5, keep3 HL.out.2.2.2.2.1 M5, keep3 HL.out.2.2.2.2.2.1 M5, keep3 HL.out.2.2.2.2.2.2 M5⟩) | (with_reducible exact ⟨keep3 HL.out.1 M6, keep3 HL.out.2.1 M6, keep3 HL.out.2.2.1 M6, keep3 HL.out.2.2.2.1 M6, keep3 HL.out.2.2.2.2.1 M6, keep3 HL.out.2.2.2.2.2.1 M6, keep3 HL.out.2.2.2.2.2.2 M6⟩) | (with_reducible exact ⟨keep3 HL.out.1 M7, keep3 HL.out.2.1 M7, keep3 HL.out.2.2.1 M7, keep3 HL.out.2.2.2.1 M7, keep3 HL.out.2.2.2.2.1 M7, keep3 HL.out.2.2.2.2.2.1 M7, keep3 HL.out.2.2.2.2.2.2 M7⟩) | (with_reducible exact ⟨keep3 HL.out.1 M8, keep3 HL.out.2.1 M8, keep3 HL.out.2.2.1 M8, keep3 HL.out.2.2.2.1 M8, keep3 HL.out.2.2.2.2.1 M8, keep3 HL.out.2.2.2.2.2.1 M8, keep3 HL.out.2.2.2.2.2.2 M8⟩) | (with_reducible exact ⟨keep3 HL.out.1 M9, keep3 HL.out.2.1 M9, keep3 HL.out.2.2.1 M9, keep3 HL.out.2.2.2.1 M9, keep3 HL.out.2.2.2.2.1 M9, keep3 HL.out.2.2.2.2.2.1 M9, keep3 HL.out.2.2.2.2.2.2 M9⟩) | (with_reducible exact ⟨keep3 HL.out.1 M10, keep3 HL.out.2.1 M10, keep3 HL.out.2.2.1 M10, keep3 HL.out.2.2.2.1 M10, keep3 HL.out.2.2.2.2.1 M10, keep3 HL.out.2.2.2.2.2.1 M10, keep3 HL.out.2.2.2.2.2.2 M10⟩) | go_keep)
      ((first
        | (go_at_call_of 8 (Value.slice A1 u1.length ca1); (with_reducible refine Calls.mono (ref4_same_true n1 u1 v1 A1 D1 A2 D2 ca1 cd1 ca2 cd2 _ (HRR.out.1.1.1.on M0) (HRR.out.1.1.2.on M0) (HRR.out.1.2.1.on M0) (HRR.out.1.2.2.on M0) (by omega) (by omega)) ?_); rintro e z1 ⟨rfl, m1⟩; have M1 := below_next M0 (Nat.le_refl _) m1)
        | (go_at_call_of 8 (Value.slice A3 u2.length ca3); (with_reducible refine Calls.mono (ref4_same_true n3 u2 v2 A3 D3 A4 D4 ca3 cd3 ca4 cd4 _ (HRR.out.2.1.1.1.on M1) (HRR.out.2.1.1.2.on M1) (HRR.out.2.1.2.1.on M1) (HRR.out.2.1.2.2.on M1) (by omega) (by omega)) ?_); rintro e z2 ⟨rfl, m2⟩; have M2 := below_next M1 (Nat.le_refl _) m2)
        | (go_at_call_of 8 (Value.slice A5 u3.length ca5); (with_reducible refine Calls.mono (ref4_same_true n5 u3 v3 A5 D5 A6 D6 ca5 cd5 ca6 cd6 _ (HRR.out.2.2.1.1.on M2) (HRR.out.2.2.1.2.on M2) (HRR.out.2.2.2.1.on M2) (HRR.out.2.2.2.2.on M2) (by omega) (by omega)) ?_); rintro e z3 ⟨rfl, m3⟩; have M3 := below_next M2 (Nat.le_refl _) m3)
        | (go_at_call 28; (with_reducible refine Calls.mono (C9.out _) ?_); rintro e z4 ⟨y4, a4, Y4, e4, d4, E4, o4, rfl, s4, t4, q4, m4⟩; have M4 := below_next M3 (Nat.le_refl _) m4)
        | (go_at_call 20; (with_reducible refine Calls.mono (C10.out _) ?_); rintro e z5 ⟨y5, a5, Y5, e5, d5, E5, o5, rfl, s5, t5, q5, m5⟩; have M5 := below_next M4 (Nat.le_refl _) m5; have l4 := s4.2; obtain ⟨rfl, rfl, rfl⟩ := SG.same s4 s5)
        | (go_at_call_of 8 (Value.slice Y4 a4.length e4); (with_reducible refine Calls.mono (ref4_same_true y4 a4 d4 Y4 E4 Y5 E5 e4 o4 e5 o5 _ (t4.on m5) (q4.on m5) t5 q5 (by omega) (by omega)) ?_); rintro e z6 ⟨rfl, m6⟩; have M6 := below_next M5 (Nat.le_refl _) m6)
        | (go_at_call 29; (with_reducible refine Calls.mono (C11.out _ (R.out _ (B6.out.trans (M6.mono B6.out.size))).1.1 (R.out _ (B6.out.trans (M6.mono B6.out.size))).1.2) ?_); rintro e z7 ⟨y7, a7, Y7, e7, d7, E7, o7, rfl, s7, t7, q7, m7⟩; have M7 := below_next M6 (Nat.le_refl _) m7)
        | (go_at_call 30; (with_reducible refine Calls.mono (C12.out _ (R.out _ (B6.out.trans (M7.mono B6.out.size))).1.1 (R.out _ (B6.out.trans (M7.mono B6.out.size))).1.2) ?_); rintro e z8 ⟨y8, a8, Y8, e8, d8, E8, o8, rfl, s8, t8, q8, m8⟩; have M8 := below_next M7 (Nat.le_refl _) m8; have l7 := s7.2; obtain ⟨rfl, rfl, rfl⟩ := SG.same s7 s8)
        | (go_at_call_of 8 (Value.slice Y7 a7.length e7); (with_reducible refine Calls.mono (ref4_same_true y7 a7 d7 Y7 E7 Y8 E8 e7 o7 e8 o8 _ (t7.on m8) (q7.on m8) t8 q8 (by omega) (by omega)) ?_); rintro e z9 ⟨rfl, m9⟩; have M9 := below_next M8 (Nat.le_refl _) m9)
        | (go_at_call 21; (with_reducible refine Calls.mono (L.out _ (B6.out.trans (M9.mono B6.out.size))) ?_); rintro e z10 ⟨rfl, m10⟩; have M10 := below_next M9 (Nat.le_refl _) m10)))
    go_wp2_with fail
    go_ret
    exact ⟨rfl, HBW.out.trans ((B6.out.trans (M10.mono B6.out.size)).mono HBW.out.size)⟩
end Go.Proofs.YtidbpkibjficnaaGreatDoor
