/- The law FracRules: the rules of reckoning hold, and what is equal is the same. -/
import Derived.Test.YtidbpkibjficnaaGreatDoorZLawO
import Derived.Test.YtidbpkibjficnaaGreatDoorZLawP
import Derived.Test.YtidbpkibjficnaaGreatDoorZFpW
namespace Go.Proofs.YtidbpkibjficnaaGreatDoor
open Go.RowKit Num

/-- a fraction stored where its box lies -/
theorem box_end3 {W v : World} {g : Nat} {t : TypeId} (k : Blk v g t [.bool false, .slice none 0 0, .slice none 0 0]) (hg : W.heap.size ≤ g) (B : Below W.heap.size W v) (n : Bool) {X Y : Option Addr} {x y : List Nat} (c e : Nat) (r : Rd v (fun g => g < v.heap.size) .u32 X x) (q : Rd v (fun g => g < v.heap.size) .u32 Y y) :
    Blk (((v.setCell ⟨g, 0, none⟩ (.bool n)).setCell ⟨g, 1, none⟩ (.slice X x.length c)).setCell ⟨g, 2, none⟩ (.slice Y y.length e)) g t [.bool n, .slice X x.length c, .slice Y y.length e] ∧ (Rd (((v.setCell ⟨g, 0, none⟩ (.bool n)).setCell ⟨g, 1, none⟩ (.slice X x.length c)).setCell ⟨g, 2, none⟩ (.slice Y y.length e)) (fun b => b < (((v.setCell ⟨g, 0, none⟩ (.bool n)).setCell ⟨g, 1, none⟩ (.slice X x.length c)).setCell ⟨g, 2, none⟩ (.slice Y y.length e)).heap.size) .u32 X x ∧ Rd (((v.setCell ⟨g, 0, none⟩ (.bool n)).setCell ⟨g, 1, none⟩ (.slice X x.length c)).setCell ⟨g, 2, none⟩ (.slice Y y.length e)) (fun b => b < (((v.setCell ⟨g, 0, none⟩ (.bool n)).setCell ⟨g, 1, none⟩ (.slice X x.length c)).setCell ⟨g, 2, none⟩ (.slice Y y.length e)).heap.size) .u32 Y y) ∧ Below W.heap.size W (((v.setCell ⟨g, 0, none⟩ (.bool n)).setCell ⟨g, 1, none⟩ (.slice X x.length c)).setCell ⟨g, 2, none⟩ (.slice Y y.length e)) :=
  ⟨k.trip _ _ _, ⟨r.trip k _ _ _, q.trip k _ _ _⟩, ((B.setCell hg _).setCell hg _).setCell hg _⟩
theorem Fit.trip {v : World} {g : Nat} {t : TypeId} {x : Bool} {p p' : Option Addr} {i j i' j' : Nat} (k : Blk v g t [.bool x, .slice p i j, .slice p' i' j']) {P : Int} {Q : Nat} {n : Bool} {A D : Option Addr} {la ca ld cd : Nat} {c : Int} (F : Fit P Q n A la ca D ld cd c v) (u0 u1 u2 : Value) : Fit P Q n A la ca D ld cd c (((v.setCell ⟨g, 0, none⟩ u0).setCell ⟨g, 1, none⟩ u1).setCell ⟨g, 2, none⟩ u2) := by
  rcases F with h | ⟨h0, h1, h2, a, d, k1, k2, k3, k4, k5, k6, k7, k8, r, q⟩
  · exact .inl h
  · exact .inr ⟨h0, h1, h2, a, d, k1, k2, k3, k4, k5, k6, k7, k8, r.trip k _ _ _, q.trip k _ _ _⟩
theorem box_endE {W v : World} {g : Nat} {t : TypeId} (k : Blk v g t [.bool false, .slice none 0 0, .slice none 0 0]) (hg : W.heap.size ≤ g) (B : Below W.heap.size W v) {P : Int} {Q : Nat} {n : Bool} {A D : Option Addr} {la ca ld cd : Nat} {c : Int} (F : Fit P Q n A la ca D ld cd c v) :
    Blk (((v.setCell ⟨g, 0, none⟩ (.bool n)).setCell ⟨g, 1, none⟩ (.slice A la ca)).setCell ⟨g, 2, none⟩ (.slice D ld cd)) g t [.bool n, .slice A la ca, .slice D ld cd] ∧ Fit P Q n A la ca D ld cd c (((v.setCell ⟨g, 0, none⟩ (.bool n)).setCell ⟨g, 1, none⟩ (.slice A la ca)).setCell ⟨g, 2, none⟩ (.slice D ld cd)) ∧ Below W.heap.size W (((v.setCell ⟨g, 0, none⟩ (.bool n)).setCell ⟨g, 1, none⟩ (.slice A la ca)).setCell ⟨g, 2, none⟩ (.slice D ld cd)) :=
  ⟨k.trip _ _ _, F.trip k _ _ _, ((B.setCell hg _).setCell hg _).setCell hg _⟩
/-- reduced fractions are the same in words just when they are equal -/
theorem SF.same_iff {P P' : Int} {Q Q' : Nat} (hQ : 0 < Q) (hQ' : 0 < Q') {n n' : Bool} {a a' d d' : List Nat} {ca ca' cd cd' : Nat} (k : SF P Q n a ca d cd) (k' : SF P' Q' n' a' ca' d' cd') : ((n = n' ∧ a = a') ∧ d = d') ↔ sgn (P * (Q' : Int) - P' * (Q : Int)) = 0 := by
  rw [sgn_zero]
  constructor
  · rintro ⟨⟨rfl, rfl⟩, rfl⟩
    obtain ⟨-, e1, e2⟩ := reduced_parts hQ k.2.2.2.2.2.1 k.2.2.2.2.2.2
    obtain ⟨-, e3, e4⟩ := reduced_parts hQ' k'.2.2.2.2.2.1 k'.2.2.2.2.2.2
    rw [← k.1] at e1
    rw [← k'.1] at e3
    generalize Nat.gcd P.natAbs Q = g at e1 e2
    generalize Nat.gcd P'.natAbs Q' = g' at e3 e4
    generalize upN n a d = x at e1 e3
    generalize loD d = y at e2 e4
    have h : P * (Q' : Int) = P' * (Q : Int) := by
      rw [← e1, ← e2, ← e3, ← e4, Int.natCast_mul, Int.natCast_mul]
      ac_rfl
    omega
  · intro h
    obtain ⟨h1, h2, h3⟩ := SF.same (SF.conv hQ hQ' (show P * (Q' : Int) = P' * (Q : Int) by omega) k) k'
    exact ⟨⟨h1, h2⟩, h3⟩
theorem ref4_same_is (r : Bool) (n n' : Bool) (a d a' d' : List Nat) (A D A' D' : Option Addr) (ca cd ca' cd' : Nat) (w : World) (hr : decide ((n = n' ∧ a = a') ∧ d = d') = r) (h1 : Rd w (fun g => g < w.heap.size) .u32 A a) (h2 : Rd w (fun g => g < w.heap.size) .u32 D d) (h3 : Rd w (fun g => g < w.heap.size) .u32 A' a') (h4 : Rd w (fun g => g < w.heap.size) .u32 D' d') (hl1 : a.length ≤ 4611686018427387904) (hl2 : d.length ≤ 4611686018427387904) :
    Calls Tryz.prog 8 #[.agg #[.bool n, .slice A a.length ca, .slice D d.length cd], .agg #[.bool n', .slice A' a'.length ca', .slice D' d'.length cd']] w fun e w' => e = .returned (.bool r) ∧ Below w.heap.size w w' := by
  have := ref4_Same n n' a d a' d' A D A' D' ca cd ca' cd' w h1 h2 h3 h4 hl1 hl2
  rwa [hr] at this
theorem same_is {P P' z : Int} {Q Q' : Nat} {r : Bool} (hQ : 0 < Q) (hQ' : 0 < Q') (hz : sgn (P * (Q' : Int) - P' * (Q : Int)) = z) (hr : (z == 0) = r) {n n' : Bool} {a a' d d' : List Nat} {ca ca' cd cd' : Nat} (k : SF P Q n a ca d cd) (k' : SF P' Q' n' a' ca' d' cd') : decide ((n = n' ∧ a = a') ∧ d = d') = r := by
  have e := SF.same_iff hQ hQ' k k'
  rw [hz] at e
  rw [← hr]
  by_cases h : z = 0
  · rw [decide_eq_true (e.2 h)]
    simp [h]
  · rw [decide_eq_false (fun x => h (e.1 x))]
    simp [h]
theorem SG.conv {P P' : Int} {Q Q' m : Nat} (hQ : 0 < Q) (hQ' : 0 < Q') (h : P * (Q' : Int) = P' * (Q : Int)) {n : Bool} {a d : List Nat} {ca cd : Nat} (k : SG P Q m n a ca d cd) : SG P' Q' m n a ca d cd := ⟨k.1.conv hQ hQ' h, k.2⟩

set_option maxRecDepth 100000 in
set_option maxHeartbeats 25600000 in
theorem walk_FracRules (n n' n'' : Bool) (a d a' d' a'' d'' : List Nat) (A D A' D' A'' D'' : Option Addr) (ca cd ca' cd' ca'' cd'' : Nat) (w : World) (h : Rd w (fun g => g < w.heap.size) .u32 A a) (h' : Rd w (fun g => g < w.heap.size) .u32 D d) (q : Rd w (fun g => g < w.heap.size) .u32 A' a') (q' : Rd w (fun g => g < w.heap.size) .u32 D' d') (t : Rd w (fun g => g < w.heap.size) .u32 A'' a'') (t' : Rd w (fun g => g < w.heap.size) .u32 D'' d'') (hl : a.length + d.length + a'.length + d'.length + a''.length + d''.length ≤ 1048576) (hc : a.length ≤ ca) (hc' : d.length ≤ cd) (gc : a'.length ≤ ca') (gc' : d'.length ≤ cd') (ic : a''.length ≤ ca'') (ic' : d''.length ≤ cd'') (ha : Dg 4294967296 a) (hd : Dg 4294967296 d) (ga : Dg 4294967296 a') (gd : Dg 4294967296 d') (ia : Dg 4294967296 a'') (id' : Dg 4294967296 d'') (htab : Tab w) :
    Calls Tryz.prog 7 #[.agg #[.bool n, .slice A a.length ca, .slice D d.length cd], .agg #[.bool n', .slice A' a'.length ca', .slice D' d'.length cd'], .agg #[.bool n'', .slice A'' a''.length ca'', .slice D'' d''.length cd'']] w fun e w' => e = .returned (.bool true) ∧ Below w.heap.size w w' := by
  obtain ⟨W, hW, k1, k2, k3, b0, s0⟩ := bx3 w 26 26 26 (.bool n) (.slice A a.length ca) (.slice D d.length cd) (.bool n') (.slice A' a'.length ca') (.slice D' d'.length cd') (.bool n'') (.slice A'' a''.length ca'') (.slice D'' d''.length cd'')
  obtain ⟨p0, p1, p2, -, -, -⟩ := k1.facts
  obtain ⟨z0, z1, z2, -, -, -⟩ := k2.facts
  obtain ⟨y0, y1, y2, -, -, -⟩ := k3.facts
  have HR := Lib.hid (And.intro (And.intro (h.on b0) (h'.on b0)) (And.intro (And.intro (q.on b0) (q'.on b0)) (And.intro (t.on b0) (t'.on b0))))
  have hQ := loD_pos d
  have hQ' := loD_pos d'
  have hR := loD_pos d''
  have bP := up_lt (n := n) (d := d) ha
  have bP' := up_lt (n := n') (d := d') ga
  have bS := up_lt (n := n'') (d := d'') ia
  have bQ := loD_le hd
  have bQ' := loD_le gd
  have bR := loD_le id'
  obtain ⟨s, hs⟩ : ∃ s, s = 1048576 := ⟨_, rfl⟩
  rw [← hs] at hl
  obtain ⟨P, hP⟩ : ∃ P, upN n a d = P := ⟨_, rfl⟩
  obtain ⟨P', hP'⟩ : ∃ P, upN n' a' d' = P := ⟨_, rfl⟩
  obtain ⟨S, hSe⟩ : ∃ P, upN n'' a'' d'' = P := ⟨_, rfl⟩
  obtain ⟨Q, hQe⟩ : ∃ Q, loD d = Q := ⟨_, rfl⟩
  obtain ⟨Q', hQe'⟩ : ∃ Q, loD d' = Q := ⟨_, rfl⟩
  obtain ⟨R, hRe⟩ : ∃ Q, loD d'' = Q := ⟨_, rfl⟩
  have v1 : SV P Q (s + 1) n a ca d cd := ⟨hc, hc', ha, hd, by omega, by omega, by rw [hP, hQe]⟩
  have v2 : SV P' Q' (s + 1) n' a' ca' d' cd' := ⟨gc, gc', ga, gd, by omega, by omega, by rw [hP', hQe']⟩
  have v3 : SV S R (s + 1) n'' a'' ca'' d'' cd'' := ⟨ic, ic', ia, id', by omega, by omega, by rw [hSe, hRe]⟩
  rw [hP] at bP
  rw [hP'] at bP'
  rw [hSe] at bS
  rw [hQe] at bQ hQ
  rw [hQe'] at bQ' hQ'
  rw [hRe] at bR hR
  clear hP hP' hSe hQe hQe' hRe
  have bQR : Q' * R < 4294967296 ^ (s + 1) := lt_of_le_pow (prod_le bQ' bR (Nat.le_refl _)) (by omega)
  have bT1 := sum_lt bP' bS bQ' bR (s := s) (by omega) (by omega)
  have bM1 : (P * P').natAbs < 4294967296 ^ (s + 1) := by
    rw [Int.natAbs_mul]
    exact Nat.lt_of_lt_of_le (prod_lt bP (Nat.le_of_lt bP') (Nat.le_refl _)) (Nat.pow_le_pow_right (by omega) (by omega))
  have bM2 : (P * S).natAbs < 4294967296 ^ (s + 1) := by
    rw [Int.natAbs_mul]
    exact Nat.lt_of_lt_of_le (prod_lt bP (Nat.le_of_lt bS) (Nat.le_refl _)) (Nat.pow_le_pow_right (by omega) (by omega))
  have bQQ : Q * Q' < 4294967296 ^ (s + 1) := lt_of_le_pow (prod_le bQ bQ' (Nat.le_refl _)) (by omega)
  have bQS : Q * R < 4294967296 ^ (s + 1) := lt_of_le_pow (prod_le bQ bR (Nat.le_refl _)) (by omega)
  have bL : (P * (P' * (R : Int) + S * (Q' : Int))).natAbs < 4294967296 ^ (s + s + 3) := by
    rw [Int.natAbs_mul]
    exact Nat.lt_of_lt_of_le (prod_lt bP (Nat.le_of_lt bT1) (Nat.le_refl _)) (Nat.pow_le_pow_right (by omega) (by omega))
  have bLQ : Q * (Q' * R) < 4294967296 ^ (s + s + 3) := lt_of_le_pow (prod_le bQ (prod_le bQ' bR (Nat.le_refl _)) (Nat.le_refl _)) (by omega)
  have bM3 : (P * P' * ((Q * R : Nat) : Int) + P * S * ((Q * Q' : Nat) : Int)).natAbs < 4294967296 ^ (s + s + 3) := by
    have := sum_lt bM1 bM2 (Nat.le_of_lt bQQ) (Nat.le_of_lt bQS) (s := s + s + 2) (by omega) (by omega)
    exact this
  have bM4 : Q * Q' * (Q * R) < 4294967296 ^ (s + s + 3) := lt_of_le_pow (prod_le (Nat.le_of_lt bQQ) (Nat.le_of_lt bQS) (Nat.le_refl _)) (by omega)
  have bA := sum_lt bP bP' bQ bQ' (s := s) (by omega) (by omega)
  have bZ := sub_lt bA bP' (Nat.le_of_lt bQQ) bQ' (s := s + s + 2) (by omega) (by omega)
  have bZQ : Q * Q' * Q' < 4294967296 ^ (s + s + 2 + 1) := lt_of_le_pow (prod_le (Nat.le_of_lt bQQ) bQ' (Nat.le_refl _)) (by omega)
  have bPs : P.natAbs < 4294967296 ^ (s + 1) := Nat.lt_of_lt_of_le bP (Nat.pow_le_pow_right (by omega) (by omega))
  have bPs' : P'.natAbs < 4294967296 ^ (s + 1) := Nat.lt_of_lt_of_le bP' (Nat.pow_le_pow_right (by omega) (by omega))
  have bQs : Q < 4294967296 ^ (s + 1) := lt_of_le_pow bQ (by omega)
  have bQs' : Q' < 4294967296 ^ (s + 1) := lt_of_le_pow bQ' (by omega)
  have hQR := Nat.mul_pos hQ' hR
  have hQQ := Nat.mul_pos hQ hQ'
  have hQS := Nat.mul_pos hQ hR
  -- contracts, relative to W
  have rA := fun (V : World) (hV : Below W.heap.size W V) => HR.out.1.1.on hV
  have rD := fun (V : World) (hV : Below W.heap.size W V) => HR.out.1.2.on hV
  have rA' := fun (V : World) (hV : Below W.heap.size W V) => HR.out.2.1.1.on hV
  have rD' := fun (V : World) (hV : Below W.heap.size W V) => HR.out.2.1.2.on hV
  have rA'' := fun (V : World) (hV : Below W.heap.size W V) => HR.out.2.2.1.on hV
  have rD'' := fun (V : World) (hV : Below W.heap.size W V) => HR.out.2.2.2.on hV
  have c1 := fun (V : World) (hV : Below W.heap.size W V) => (fv_Add P' S Q' R (s + 1) hQ' hR (by omega) (by omega) n' n'' a' d' a'' d'' A' D' A'' D'' ca' cd' ca'' cd'' V v2 v3 (rA' V hV) (rD' V hV) (rA'' V hV) (rD'' V hV)).mono fun _ _ => Gv.imp fun _ _ _ _ _ => SF.toG bT1 bQR
  have c2 : ∀ (V : World) (hV : Below W.heap.size W V) (n2 : Bool) (a2 d2 : List Nat) (X2 Y2 : Option Addr) (c2 e2 : Nat), SG (P' * (R : Int) + S * (Q' : Int)) (Q' * R) (s + 1) n2 a2 c2 d2 e2 → Rd V (fun g => g < V.heap.size) .u32 X2 a2 → Rd V (fun g => g < V.heap.size) .u32 Y2 d2 → Calls Tryz.prog 13 #[.agg #[.bool n, .slice A a.length ca, .slice D d.length cd], .agg #[.bool n2, .slice X2 a2.length c2, .slice Y2 d2.length e2]] V (Gv (SG (P * P' * ((Q * R : Nat) : Int) + P * S * ((Q * Q' : Nat) : Int)) (Q * Q' * (Q * R)) (s + s + 3)) V) := fun V hV n2 a2 d2 X2 Y2 c2 e2 hh r r' =>
    (fv_Mul P (P' * (R : Int) + S * (Q' : Int)) Q (Q' * R) (s + 1) hQ hQR (by omega) (by omega) n n2 a d a2 d2 A D X2 Y2 ca cd c2 e2 V v1 (hh.toV hQR) (rA V hV) (rD V hV) r r').mono fun _ _ => Gv.imp fun _ _ _ _ _ hk => (SF.toG bL bLQ hk).conv (Nat.mul_pos hQ hQR) (Nat.mul_pos hQQ hQS) (by
      simp only [Int.natCast_mul]
      rw [Int.mul_add, Int.add_mul, Int.add_mul]
      congr 1 <;> ac_rfl)
  have c3 := fun (V : World) (hV : Below W.heap.size W V) => (fv_Mul P P' Q Q' (s + 1) hQ hQ' (by omega) (by omega) n n' a d a' d' A D A' D' ca cd ca' cd' V v1 v2 (rA V hV) (rD V hV) (rA' V hV) (rD' V hV)).mono fun _ _ => Gv.imp fun _ _ _ _ _ => SF.toG bM1 bQQ
  have c4 := fun (V : World) (hV : Below W.heap.size W V) => (fv_Mul P S Q R (s + 1) hQ hR (by omega) (by omega) n n'' a d a'' d'' A D A'' D'' ca cd ca'' cd'' V v1 v3 (rA V hV) (rD V hV) (rA'' V hV) (rD'' V hV)).mono fun _ _ => Gv.imp fun _ _ _ _ _ => SF.toG bM2 bQS
  have c5 : ∀ (V : World) (n1 n2 : Bool) (a1 d1 a2 d2 : List Nat) (X1 Y1 X2 Y2 : Option Addr) (c1 e1 c2 e2 : Nat), SG (P * P') (Q * Q') (s + 1) n1 a1 c1 d1 e1 → SG (P * S) (Q * R) (s + 1) n2 a2 c2 d2 e2 → Rd V (fun g => g < V.heap.size) .u32 X1 a1 → Rd V (fun g => g < V.heap.size) .u32 Y1 d1 → Rd V (fun g => g < V.heap.size) .u32 X2 a2 → Rd V (fun g => g < V.heap.size) .u32 Y2 d2 → Calls Tryz.prog 9 #[.agg #[.bool n1, .slice X1 a1.length c1, .slice Y1 d1.length e1], .agg #[.bool n2, .slice X2 a2.length c2, .slice Y2 d2.length e2]] V (Gv (SG (P * P' * ((Q * R : Nat) : Int) + P * S * ((Q * Q' : Nat) : Int)) (Q * Q' * (Q * R)) (s + s + 3)) V) := fun V n1 n2 a1 d1 a2 d2 X1 Y1 X2 Y2 c1 e1 c2 e2 h1 h2 r1 r2 r3 r4 =>
    (fv_Add (P * P') (P * S) (Q * Q') (Q * R) (s + 1) hQQ hQS (by omega) (by omega) n1 n2 a1 d1 a2 d2 X1 Y1 X2 Y2 c1 e1 c2 e2 V (h1.toV hQQ) (h2.toV hQS) r1 r2 r3 r4).mono fun _ _ => Gv.imp fun _ _ _ _ _ => SF.toG bM3 bM4
  have c6 : ∀ (V : World) (hV : Below W.heap.size W V) (n1 : Bool) (a1 d1 : List Nat) (X1 Y1 : Option Addr) (c1 e1 : Nat), SG (P * P') (Q * Q') (s + 1) n1 a1 c1 d1 e1 → Rd V (fun g => g < V.heap.size) .u32 X1 a1 → Rd V (fun g => g < V.heap.size) .u32 Y1 d1 → Calls Tryz.prog 22 #[.agg #[.bool n1, .slice X1 a1.length c1, .slice Y1 d1.length e1], .agg #[.bool n', .slice A' a'.length ca', .slice D' d'.length cd']] V (GivesFE (acrossN (P * P' * (Q' : Int)) (P' * ((Q * Q' : Nat) : Int))) (P' * ((Q * Q' : Nat) : Int)).natAbs V) := fun V hV n1 a1 d1 X1 Y1 c1 e1 h1 r1 r2 =>
    fv_Div (P * P') P' (Q * Q') Q' (s + 1) hQQ hQ' (by omega) (by omega) n1 n' a1 d1 a' d' X1 Y1 A' D' c1 e1 ca' cd' V (h1.toV hQQ) v2 r1 r2 (rA' V hV) (rD' V hV)
  have c7 := fun (V : World) (hV : Below W.heap.size W V) => frac_Sign_gen (SV P' Q' (s + 1)) (SR P' Q' (s + 1)) (sgn P') (hold_V P' Q' (s + 1) (by omega) (by omega)) (fun n a d A ca cd w hh r => by
    have := whole_Sign n a A ca w r (by have := hh.2.2.2.2.1; omega) hh.1 hh.2.2.1
    rwa [sgn_cross (P := P') (Q := (Q' : Int)) (by have := hh.2.2.2.2.2.2.1; omega) (by omega) hh.2.2.2.2.2.2.2] at this) n' a' d' A' D' ca' cd' V v2 (rA' V hV) (rD' V hV)
  have c8 := fun (V : World) (hV : Below W.heap.size W V) => (fv_Reduce P Q (s + 1) hQ (by omega) (by omega) n a d A D ca cd V v1 (rA V hV) (rD V hV)).mono fun _ _ => Gv.imp fun _ _ _ _ _ => SF.toG bPs bQs
  have c9 := fun (V : World) (hV : Below W.heap.size W V) => (fv_Reduce P' Q' (s + 1) hQ' (by omega) (by omega) n' a' d' A' D' ca' cd' V v2 (rA' V hV) (rD' V hV)).mono fun _ _ => Gv.imp fun _ _ _ _ _ => SF.toG bPs' bQs'
  have c10 := fun (V : World) (hV : Below W.heap.size W V) => (fv_Add P P' Q Q' (s + 1) hQ hQ' (by omega) (by omega) n n' a d a' d' A D A' D' ca cd ca' cd' V v1 v2 (rA V hV) (rD V hV) (rA' V hV) (rD' V hV)).mono fun _ _ => Gv.imp fun _ _ _ _ _ => SF.toG bA bQQ
  have c11 : ∀ (V : World) (hV : Below W.heap.size W V) (n1 : Bool) (a1 d1 : List Nat) (X1 Y1 : Option Addr) (c1 e1 : Nat), SG (P * (Q' : Int) + P' * (Q : Int)) (Q * Q') (s + 1) n1 a1 c1 d1 e1 → Rd V (fun g => g < V.heap.size) .u32 X1 a1 → Rd V (fun g => g < V.heap.size) .u32 Y1 d1 → Calls Tryz.prog 11 #[.agg #[.bool n1, .slice X1 a1.length c1, .slice Y1 d1.length e1], .agg #[.bool n', .slice A' a'.length ca', .slice D' d'.length cd']] V (Gv (SG P Q (s + s + 2 + 1)) V) := fun V hV n1 a1 d1 X1 Y1 c1 e1 h1 r1 r2 =>
    (fv_Sub (P * (Q' : Int) + P' * (Q : Int)) P' (Q * Q') Q' (s + 1) hQQ hQ' (by omega) (by omega) n1 n' a1 d1 a' d' X1 Y1 A' D' c1 e1 ca' cd' V (h1.toV hQQ) v2 r1 r2 (rA' V hV) (rD' V hV)).mono fun _ _ => Gv.imp fun _ _ _ _ _ hk => (SF.toG bZ bZQ hk).conv (Nat.mul_pos hQQ hQ') hQ (by
      simp only [Int.natCast_mul]
      rw [Int.add_mul, Int.sub_mul, Int.add_mul, show P' * (Q : Int) * (Q' : Int) * (Q : Int) = P' * ((Q : Int) * (Q' : Int)) * (Q : Int) by ac_rfl, Int.add_sub_cancel]
      ac_rfl)
  have c12 := fun (V : World) (hV : Below W.heap.size W V) => frac_Cmp (SV P Q (s + 1)) (SV P' Q' (s + 1)) P P' Q Q' (s + 1) hQ hQ' (by omega) (hold_V P Q (s + 1) (by omega) (by omega)) (hold_V P' Q' (s + 1) (by omega) (by omega)) n n' a d a' d' A D A' D' ca cd ca' cd' V v1 v2 (rA V hV) (rD V hV) (rA' V hV) (rD' V hV)
  have c13 := fun (V : World) (hV : Below W.heap.size W V) => law4_lives V (htab.on (b0.trans (hV.mono b0.size)))
  obtain ⟨zc, hzc⟩ : ∃ z, sgn (P * (Q' : Int) - P' * (Q : Int)) = z := ⟨_, rfl⟩
  obtain ⟨zs, hzs⟩ : ∃ z, sgn P' = z := ⟨_, rfl⟩
  simp only [hzc] at c12
  simp only [hzs] at c7
  have HZC := Lib.hid hzc
  have HZS := Lib.hid hzs
  have hz0 : zs = 0 ↔ P' = 0 := by rw [← hzs]; exact sgn_zero
  have HDIV := Lib.hid (fun (hne : P' ≠ 0) => (show acrossN (P * P' * (Q' : Int)) (P' * ((Q * Q' : Nat) : Int)) * (Q : Int) = P * ((P' * ((Q * Q' : Nat) : Int)).natAbs : Int) ∧ 0 < (P' * ((Q * Q' : Nat) : Int)).natAbs from by
    have hx : (0 : Int) < ((Q * Q' : Nat) : Int) := by omega
    constructor
    · unfold acrossN
      rcases Int.lt_or_le (P' * ((Q * Q' : Nat) : Int)) 0 with hn | hn
      · rw [if_pos hn, show ((P' * ((Q * Q' : Nat) : Int)).natAbs : Int) = -(P' * ((Q * Q' : Nat) : Int)) by omega, Int.natCast_mul, Int.neg_mul, Int.mul_neg]
        congr 1
        ac_rfl
      · rw [if_neg (by omega), show ((P' * ((Q * Q' : Nat) : Int)).natAbs : Int) = (P' * ((Q * Q' : Nat) : Int)) by omega, Int.natCast_mul]
        ac_rfl
    · have : P' * ((Q * Q' : Nat) : Int) ≠ 0 := Int.mul_ne_zero hne (by omega)
      omega))
  obtain ⟨ND, hND⟩ : ∃ N, acrossN (P * P' * (Q' : Int)) (P' * ((Q * Q' : Nat) : Int)) = N := ⟨_, rfl⟩
  obtain ⟨MD, hMD⟩ : ∃ N, (P' * ((Q * Q' : Nat) : Int)).natAbs = N := ⟨_, rfl⟩
  rw [hND, hMD] at HDIV
  simp only [hND, hMD] at c6
  obtain ⟨NL, hNL⟩ : ∃ N, P * P' * ((Q * R : Nat) : Int) + P * S * ((Q * Q' : Nat) : Int) = N := ⟨_, rfl⟩
  obtain ⟨ML, hML⟩ : ∃ N, Q * Q' * (Q * R) = N := ⟨_, rfl⟩
  simp only [hNL, hML] at c2 c5
  obtain ⟨NB, hNB⟩ : ∃ N, P' * (R : Int) + S * (Q' : Int) = N := ⟨_, rfl⟩
  obtain ⟨MB, hMB⟩ : ∃ N, Q' * R = N := ⟨_, rfl⟩
  simp only [hNB, hMB] at c1 c2
  obtain ⟨N1, hN1⟩ : ∃ N, P * P' = N := ⟨_, rfl⟩
  obtain ⟨M1, hM1⟩ : ∃ N, Q * Q' = N := ⟨_, rfl⟩
  obtain ⟨N2, hN2⟩ : ∃ N, P * S = N := ⟨_, rfl⟩
  obtain ⟨M2, hM2⟩ : ∃ N, Q * R = N := ⟨_, rfl⟩
  simp only [hN1, hM1] at c3 c6
  simp only [hN2, hM2] at c4
  simp only [hN1, hM1, hN2, hM2] at c5
  obtain ⟨NA, hNA⟩ : ∃ N, P * (Q' : Int) + P' * (Q : Int) = N := ⟨_, rfl⟩
  simp only [hNA, hM1] at c10 c11
  have es : s + s + 3 ≤ 4194304 := by omega
  have C1 := Lib.hid c1
  have C2 := Lib.hid c2
  have C3 := Lib.hid c3
  have C4 := Lib.hid c4
  have C5 := Lib.hid c5
  have C6 := Lib.hid c6
  have C7 := Lib.hid c7
  have C8 := Lib.hid c8
  have C9 := Lib.hid c9
  have C10 := Lib.hid c10
  have C11 := Lib.hid c11
  have C12 := Lib.hid c12
  have C13 := Lib.hid c13
  have HK1 := Lib.hid k1
  have HK2 := Lib.hid k2
  have HK3 := Lib.hid k3
  have HB0 := Lib.hid b0
  have HQ := Lib.hid (And.intro hQ hQ')
  have hlt : w.heap.size + 2 < W.heap.size := by omega
  clear c1 c2 c3 c4 c5 c6 c7 c8 c9 c10 c11 c12 c13 rA rD rA' rD' rA'' rD'' hND hMD hNL hML hNB hMB hN1 hM1 hN2 hM2 hNA hzc hzs hQR hQQ hQS bPs bPs' bQs bQs' bZ bZQ bA bM3 bM4 bL bLQ bQS bQQ bM1 bM2 bT1 bQR v1 v2 v3 bP bP' bS bQ bQ' bR hQ hQ' hR h h' q q' t t' htab hs s0 k1 k2 k3 b0
  go_enter Tryz.func7, Tryz.ntmps7
  go_wp2_with fail
  try rw [hW]
  clear hW
  have K0 : Below W.heap.size W W.drew := below_drewN (Below.refl _ _) 1
  have KO : Below W.heap.size W (W.alloc (.cells #[.bool false, .slice none 0 0, .slice none 0 0] 26)).drew := below_drewN (keep_one (Below.refl W.heap.size W) _) 1
  go_cut [7] from 8 (fun v7 wc => ∃ g7 m7 a7 X7 c7 d7 Y7 e7, v7 = .pointer (some ⟨g7, 0, none⟩) ∧ SG NL ML (s + s + 3) m7 a7 c7 d7 e7 ∧ Blk wc g7 26 [.bool m7, .slice X7 a7.length c7, .slice Y7 d7.length e7] ∧ (Rd wc (fun g => g < wc.heap.size) .u32 X7 a7 ∧ Rd wc (fun g => g < wc.heap.size) .u32 Y7 d7) ∧ Below W.heap.size W wc)
  case first =>
    go_region_held3 (fun w' => (w'.cell? ⟨w.heap.size, 0, none⟩ = some (.bool n) ∧ w'.cell? ⟨w.heap.size, 1, none⟩ = some (.slice A a.length ca) ∧ w'.cell? ⟨w.heap.size, 2, none⟩ = some (.slice D d.length cd)) ∧ (w'.cell? ⟨w.heap.size + 1, 0, none⟩ = some (.bool n') ∧ w'.cell? ⟨w.heap.size + 1, 1, none⟩ = some (.slice A' a'.length ca') ∧ w'.cell? ⟨w.heap.size + 1, 2, none⟩ = some (.slice D' d'.length cd')) ∧ (w'.cell? ⟨w.heap.size + 1 + 1, 0, none⟩ = some (.bool n'') ∧ w'.cell? ⟨w.heap.size + 1 + 1, 1, none⟩ = some (.slice A'' a''.length ca'') ∧ w'.cell? ⟨w.heap.size + 1 + 1, 2, none⟩ = some (.slice D'' d''.length cd'')))
      (first | (refine ⟨keep3 HK1.out ?_, keep3 HK2.out ?_, keep3 HK3.out ?_⟩ <;> (first | (with_reducible exact KS) | (with_reducible exact K0) | ((repeat (first | (with_reducible refine Below.setCell ?_ (by first | (dsimp only; omega) | (have := KS.size; dsimp only; omega) | (with_reducible exact hgB)) _) | (with_reducible refine Below.alloc ?_ (by first | exact Nat.le_refl _ | omega | (have := KS.size; omega) | (simp; omega) | (have := KS.size; simp [World.setCell]; omega)) _))); first | (with_reducible exact KS) | (with_reducible exact K0)))) | go_keep)
      ((first
        | (go_at_call 9; (first | (with_reducible refine Calls.mono (C1.out _ K0) ?_) | (with_reducible refine Calls.mono (C1.out _ KO) ?_)); rintro e wl1 ⟨ml1, al1, Xl1, cl1, dl1, Yl1, el1, rfl, sl1, rl1, ql1, bl1⟩; (first | (guard_hyp bl1 : Below W.drew.heap.size W.drew wl1; have KS := below_next K0 (Nat.le_refl _) bl1) | (have hgB : W.heap.size ≤ W.heap.size := Nat.le_refl _; obtain ⟨kA, sA⟩ := got13d bl1; obtain ⟨o0, o1, o2, o3, o4, o5⟩ := kA.facts; have KS := below_next KO (Nat.le_refl _) bl1)))
        | (go_at_call 13; (first | (with_reducible refine Calls.mono (C2.out _ KS ml1 al1 dl1 Xl1 Yl1 cl1 el1 sl1 rl1 ql1) ?_) | (with_reducible refine Calls.mono (C2.out _ (keep_one KS _) ml1 al1 dl1 Xl1 Yl1 cl1 el1 sl1 (rl1.on (below_new _ _)) (ql1.on (below_new _ _))) ?_)); rintro e wl2 ⟨ml2, al2, Xl2, cl2, dl2, Yl2, el2, rfl, sl2, rl2, ql2, bl2⟩; (first | (guard_hyp bl2 : Below wl1.heap.size wl1 wl2; have bb := bl2; have KS := below_next KS (Nat.le_refl _) bl2; first | (guard_hyp kA; have kA := kA.on bl2; have sA := kA.lt; obtain ⟨o0, o1, o2, o3, o4, o5⟩ := kA.facts) | skip) | (have hgB : W.heap.size ≤ wl1.heap.size := KS.size; obtain ⟨kA, sA⟩ := got13 bl2; obtain ⟨o0, o1, o2, o3, o4, o5⟩ := kA.facts; have bb := (below_new wl1 (.cells #[.bool false, .slice none 0 0, .slice none 0 0] 26)).trans (bl2.mono (by simp)); have KS := below_next (keep_one KS (.cells #[.bool false, .slice none 0 0, .slice none 0 0] 26)) (Nat.le_refl _) bl2)); have rl1 := rl1.on bb; have ql1 := ql1.on bb)))
    all_goals
      go_wp2_with fail
      go_meet
      refine ⟨_, ml2, al2, Xl2, cl2, dl2, Yl2, el2, rfl, sl2, ?_⟩
      first
        | (with_reducible exact box_end3 kA hgB KS _ _ _ rl2 ql2)
        | exact ⟨Blk.new wl2 _ _, ⟨rl2.on (below_new _ _), ql2.on (below_new _ _)⟩, keep_one KS _⟩
  case rest =>
  obtain ⟨g7, m7, a7, X7, c7, d7, Y7, e7, rfl, s7, k7, ⟨r7, q7⟩, B1⟩ := hcut
  obtain ⟨U1, hU1⟩ : ∃ U, U = wc := ⟨_, rfl⟩
  subst hU1
  have hs1 := B1.size
  have j1 := HK1.out.below B1 HK1.out.lt
  have j2 := HK2.out.below B1 HK2.out.lt
  have j3 := HK3.out.below B1 HK3.out.lt
  have J1 := Lib.hid j1
  have J2 := Lib.hid j2
  have J3 := Lib.hid j3
  have T1 := Lib.hid B1
  have G7 := Lib.hid (And.intro s7 (And.intro k7 (And.intro r7 q7)))
  obtain ⟨p0, p1, p2, -, -, -⟩ := j1.facts
  obtain ⟨z0, z1, z2, -, -, -⟩ := j2.facts
  obtain ⟨y0, y1, y2, -, -, -⟩ := j3.facts
  have hlt1 : w.heap.size + 2 < U1.heap.size := by omega
  clear j1 j2 j3 s7 k7 r7 q7 K0 KO B1 hs1
  go_wp2_with fail
  have K0 : Below U1.heap.size U1 U1.drew := below_drewN (Below.refl _ _) 1
  have KO : Below U1.heap.size U1 (U1.alloc (.cells #[.bool false, .slice none 0 0, .slice none 0 0] 26)).drew := below_drewN (keep_one (Below.refl U1.heap.size U1) _) 1
  go_cut [8] from 9 (fun v8 wd => ∃ g8 m8 a8 X8 c8 d8 Y8 e8, v8 = .pointer (some ⟨g8, 0, none⟩) ∧ SG NL ML (s + s + 3) m8 a8 c8 d8 e8 ∧ Blk wd g8 26 [.bool m8, .slice X8 a8.length c8, .slice Y8 d8.length e8] ∧ (Rd wd (fun g => g < wd.heap.size) .u32 X8 a8 ∧ Rd wd (fun g => g < wd.heap.size) .u32 Y8 d8) ∧ Below U1.heap.size U1 wd)
  case first =>
    go_region_held3 (fun w' => (w'.cell? ⟨w.heap.size, 0, none⟩ = some (.bool n) ∧ w'.cell? ⟨w.heap.size, 1, none⟩ = some (.slice A a.length ca) ∧ w'.cell? ⟨w.heap.size, 2, none⟩ = some (.slice D d.length cd)) ∧ (w'.cell? ⟨w.heap.size + 1, 0, none⟩ = some (.bool n') ∧ w'.cell? ⟨w.heap.size + 1, 1, none⟩ = some (.slice A' a'.length ca') ∧ w'.cell? ⟨w.heap.size + 1, 2, none⟩ = some (.slice D' d'.length cd')) ∧ (w'.cell? ⟨w.heap.size + 1 + 1, 0, none⟩ = some (.bool n'') ∧ w'.cell? ⟨w.heap.size + 1 + 1, 1, none⟩ = some (.slice A'' a''.length ca'') ∧ w'.cell? ⟨w.heap.size + 1 + 1, 2, none⟩ = some (.slice D'' d''.length cd'')))
      (first | (refine ⟨keep3 J1.out ?_, keep3 J2.out ?_, keep3 J3.out ?_⟩ <;> (first | (with_reducible exact KS) | (with_reducible exact K0) | ((repeat (first | (with_reducible refine Below.setCell ?_ (by first | (dsimp only; omega) | (have := KS.size; dsimp only; omega) | (with_reducible exact hgB)) _) | (with_reducible refine Below.alloc ?_ (by first | exact Nat.le_refl _ | omega | (have := KS.size; omega) | (simp; omega) | (have := KS.size; simp [World.setCell]; omega)) _))); first | (with_reducible exact KS) | (with_reducible exact K0)))) | go_keep)
      ((first
        | (go_at_call_of 13 (Value.slice A' a'.length ca'); (first | (with_reducible refine Calls.mono (C3.out _ (T1.out.trans ((K0).mono T1.out.size))) ?_) | (with_reducible refine Calls.mono (C3.out _ (T1.out.trans ((KO).mono T1.out.size))) ?_)); rintro e wr1 ⟨mr1, ar1, Xr1, cr1, dr1, Yr1, er1, rfl, sr1, rr1, qr1, br1⟩; (first | (guard_hyp br1 : Below U1.drew.heap.size U1.drew wr1; have KS := below_next K0 (Nat.le_refl _) br1) | (have hgB : U1.heap.size ≤ U1.heap.size := Nat.le_refl _; obtain ⟨kA, sA⟩ := got13d br1; obtain ⟨o0, o1, o2, o3, o4, o5⟩ := kA.facts; have KS := below_next KO (Nat.le_refl _) br1)))
        | (go_at_call_of 13 (Value.slice A'' a''.length ca''); (first | (with_reducible refine Calls.mono (C4.out _ (T1.out.trans ((KS).mono T1.out.size))) ?_) | (with_reducible refine Calls.mono (C4.out _ (T1.out.trans (((keep_one KS _)).mono T1.out.size))) ?_)); rintro e wr2 ⟨mr2, ar2, Xr2, cr2, dr2, Yr2, er2, rfl, sr2, rr2, qr2, br2⟩; (first | (guard_hyp br2 : Below wr1.heap.size wr1 wr2; have bb := br2; have KS := below_next KS (Nat.le_refl _) br2; first | (guard_hyp kA; have kA := kA.on br2; have sA := kA.lt; obtain ⟨o0, o1, o2, o3, o4, o5⟩ := kA.facts) | skip) | (have hgB : U1.heap.size ≤ wr1.heap.size := KS.size; obtain ⟨kA, sA⟩ := got13 br2; obtain ⟨o0, o1, o2, o3, o4, o5⟩ := kA.facts; have bb := (below_new wr1 (.cells #[.bool false, .slice none 0 0, .slice none 0 0] 26)).trans (br2.mono (by simp)); have KS := below_next (keep_one KS (.cells #[.bool false, .slice none 0 0, .slice none 0 0] 26)) (Nat.le_refl _) br2)); have rr1 := rr1.on bb; have qr1 := qr1.on bb)
        | (go_at_call 9; (first | (with_reducible refine Calls.mono (C5.out _ mr1 mr2 ar1 dr1 ar2 dr2 Xr1 Yr1 Xr2 Yr2 cr1 er1 cr2 er2 sr1 sr2 rr1 qr1 rr2 qr2) ?_) | (with_reducible refine Calls.mono (C5.out _ mr1 mr2 ar1 dr1 ar2 dr2 Xr1 Yr1 Xr2 Yr2 cr1 er1 cr2 er2 sr1 sr2 (rr1.on (below_new _ _)) (qr1.on (below_new _ _)) (rr2.on (below_new _ _)) (qr2.on (below_new _ _))) ?_)); rintro e wr3 ⟨mr3, ar3, Xr3, cr3, dr3, Yr3, er3, rfl, sr3, rr3, qr3, br3⟩; (first | (guard_hyp br3 : Below wr2.heap.size wr2 wr3; have bb := br3; have KS := below_next KS (Nat.le_refl _) br3; first | (guard_hyp kA; have kA := kA.on br3; have sA := kA.lt; obtain ⟨o0, o1, o2, o3, o4, o5⟩ := kA.facts) | skip) | (have hgB : U1.heap.size ≤ wr2.heap.size := KS.size; obtain ⟨kA, sA⟩ := got13 br3; obtain ⟨o0, o1, o2, o3, o4, o5⟩ := kA.facts; have bb := (below_new wr2 (.cells #[.bool false, .slice none 0 0, .slice none 0 0] 26)).trans (br3.mono (by simp)); have KS := below_next (keep_one KS (.cells #[.bool false, .slice none 0 0, .slice none 0 0] 26)) (Nat.le_refl _) br3)); have rr1 := rr1.on bb; have qr1 := qr1.on bb; have rr2 := rr2.on bb; have qr2 := qr2.on bb)))
    all_goals
      go_wp2_with fail
      go_meet
      refine ⟨_, mr3, ar3, Xr3, cr3, dr3, Yr3, er3, rfl, sr3, ?_⟩
      first
        | (with_reducible exact box_end3 kA hgB KS _ _ _ rr3 qr3)
        | exact ⟨Blk.new wr3 _ _, ⟨rr3.on (below_new _ _), qr3.on (below_new _ _)⟩, keep_one KS _⟩
  case rest =>
  obtain ⟨g8, m8, a8, X8, c8, d8, Y8, e8, rfl, s8, k8, ⟨r8, q8⟩, B2⟩ := hcut
  obtain ⟨U2, hU2⟩ : ∃ U, U = wc := ⟨_, rfl⟩
  subst hU2
  have j1 := J1.out.below B2 J1.out.lt
  have j2 := J2.out.below B2 J2.out.lt
  have j3 := J3.out.below B2 J3.out.lt
  have hs2 := B2.size
  have T2 := Lib.hid (T1.out.trans (B2.mono T1.out.size))
  have G8 := Lib.hid (And.intro s8 (And.intro k8 (And.intro r8 q8)))
  have G7' := Lib.hid (And.intro (G7.out.2.1.below B2 G7.out.2.1.lt) (And.intro (G7.out.2.2.1.on B2) (G7.out.2.2.2.on B2)))
  have I1 := Lib.hid j1
  have I2 := Lib.hid j2
  have I3 := Lib.hid j3
  obtain ⟨p0, p1, p2, -, -, -⟩ := j1.facts
  obtain ⟨z0, z1, z2, -, -, -⟩ := j2.facts
  obtain ⟨y0, y1, y2, -, -, -⟩ := j3.facts
  have hlt2 : w.heap.size + 2 < U2.heap.size := by omega
  clear j1 j2 j3 s8 k8 r8 q8 K0 KO B2 hs2
  go_wp2_with fail
  have K0 : Below U2.heap.size U2 U2.drew := below_drewN (Below.refl _ _) 1
  have KO : Below U2.heap.size U2 (U2.alloc (.cells #[.bool false, .slice none 0 0, .slice none 0 0] 26)).drew := below_drewN (keep_one (Below.refl U2.heap.size U2) _) 1
  go_cut [9, 10] from 11 (fun v9 v10 we => ∃ g9 n9 A9 la c9 D9 ld e9 er, v9 = .pointer (some ⟨g9, 0, none⟩) ∧ v10 = .int .i64 er ∧ Blk we g9 26 [.bool n9, .slice A9 la c9, .slice D9 ld e9] ∧ Fit ND MD n9 A9 la c9 D9 ld e9 er we ∧ Below U2.heap.size U2 we)
  case first =>
    go_region_held3 (fun w' => (w'.cell? ⟨w.heap.size, 0, none⟩ = some (.bool n) ∧ w'.cell? ⟨w.heap.size, 1, none⟩ = some (.slice A a.length ca) ∧ w'.cell? ⟨w.heap.size, 2, none⟩ = some (.slice D d.length cd)) ∧ (w'.cell? ⟨w.heap.size + 1, 0, none⟩ = some (.bool n') ∧ w'.cell? ⟨w.heap.size + 1, 1, none⟩ = some (.slice A' a'.length ca') ∧ w'.cell? ⟨w.heap.size + 1, 2, none⟩ = some (.slice D' d'.length cd')) ∧ (w'.cell? ⟨w.heap.size + 1 + 1, 0, none⟩ = some (.bool n'') ∧ w'.cell? ⟨w.heap.size + 1 + 1, 1, none⟩ = some (.slice A'' a''.length ca'') ∧ w'.cell? ⟨w.heap.size + 1 + 1, 2, none⟩ = some (.slice D'' d''.length cd'')))
      (first | (refine ⟨keep3 I1.out ?_, keep3 I2.out ?_, keep3 I3.out ?_⟩ <;> (first | (with_reducible exact KS) | (with_reducible exact K0) | ((repeat (first | (with_reducible refine Below.setCell ?_ (by first | (dsimp only; omega) | (have := KS.size; dsimp only; omega) | (with_reducible exact hgB)) _) | (with_reducible refine Below.alloc ?_ (by first | exact Nat.le_refl _ | omega | (have := KS.size; omega) | (simp; omega) | (have := KS.size; simp [World.setCell]; omega)) _))); first | (with_reducible exact KS) | (with_reducible exact K0)))) | go_keep)
      ((first
        | (go_at_call_of 13 (Value.slice A' a'.length ca'); (first | (with_reducible refine Calls.mono (C3.out _ (T2.out.trans ((K0).mono T2.out.size))) ?_) | (with_reducible refine Calls.mono (C3.out _ (T2.out.trans ((KO).mono T2.out.size))) ?_)); rintro e wu1 ⟨mu1, au1, Xu1, cu1, du1, Yu1, eu1, rfl, su1, ru1, qu1, bu1⟩; (first | (guard_hyp bu1 : Below U2.drew.heap.size U2.drew wu1; have KS := below_next K0 (Nat.le_refl _) bu1) | (have hgB : U2.heap.size ≤ U2.heap.size := Nat.le_refl _; obtain ⟨kA, sA⟩ := got13d bu1; obtain ⟨o0, o1, o2, o3, o4, o5⟩ := kA.facts; have KS := below_next KO (Nat.le_refl _) bu1)))
        | (go_at_call 22; (first | (with_reducible refine Calls.mono (C6.out _ (T2.out.trans ((KS).mono T2.out.size)) mu1 au1 du1 Xu1 Yu1 cu1 eu1 su1 ru1 qu1) ?_) | (with_reducible refine Calls.mono (C6.out _ (T2.out.trans (((keep_one KS _)).mono T2.out.size)) mu1 au1 du1 Xu1 Yu1 cu1 eu1 su1 (ru1.on (below_new _ _)) (qu1.on (below_new _ _))) ?_)); rintro e wu2 hE; obtain ⟨n9, A9, la, c9, D9, ld, e9, er, rfl, f9, bu2⟩ := hE.one; clear hE; (first | (guard_hyp bu2 : Below wu1.heap.size wu1 wu2; have bb := bu2; have KS := below_next KS (Nat.le_refl _) bu2; first | (guard_hyp kA; have kA := kA.on bu2; have sA := kA.lt; obtain ⟨o0, o1, o2, o3, o4, o5⟩ := kA.facts) | skip) | (have hgB : U2.heap.size ≤ wu1.heap.size := KS.size; obtain ⟨kA, sA⟩ := got13 bu2; obtain ⟨o0, o1, o2, o3, o4, o5⟩ := kA.facts; have bb := (below_new wu1 (.cells #[.bool false, .slice none 0 0, .slice none 0 0] 26)).trans (bu2.mono (by simp)); have KS := below_next (keep_one KS (.cells #[.bool false, .slice none 0 0, .slice none 0 0] 26)) (Nat.le_refl _) bu2)); have ru1 := ru1.on bb; have qu1 := qu1.on bb)))
    all_goals
      go_wp2_with fail
      go_meet
      refine ⟨_, n9, A9, la, c9, D9, ld, e9, er, rfl, rfl, ?_⟩
      first
        | (with_reducible exact box_endE kA hgB KS f9)
        | exact ⟨Blk.new wu2 _ _, f9.on (below_new _ _), keep_one KS _⟩
  case rest =>
  obtain ⟨g9, n9, A9, la, c9, D9, ld, e9, er, rfl, rfl, k9, f9, B3⟩ := hcut
  obtain ⟨U3, hU3⟩ : ∃ U, U = wc := ⟨_, rfl⟩
  subst hU3
  have j1 := I1.out.below B3 I1.out.lt
  have j2 := I2.out.below B3 I2.out.lt
  have hs3 := B3.size
  have T3 := Lib.hid (T2.out.trans (B3.mono T2.out.size))
  have k8 := G8.out.2.1.below B3 G8.out.2.1.lt
  have k7 := G7'.out.1.below B3 G7'.out.1.lt
  have hl7 := G7.out.1.2
  have F9 := Lib.hid f9
  have HK9 := Lib.hid k9
  have HK7 := Lib.hid k7
  have HK8 := Lib.hid k8
  have E1 := Lib.hid j1
  have E2 := Lib.hid j2
  have R78 := Lib.hid (And.intro (And.intro (G7'.out.2.1.on B3) (G7'.out.2.2.on B3)) (And.intro (G8.out.2.2.1.on B3) (G8.out.2.2.2.on B3)))
  obtain ⟨rfl, rfl, rfl⟩ := SG.same G7.out.1 G8.out.1
  obtain ⟨p0, p1, p2, -, -, -⟩ := j1.facts
  obtain ⟨z0, z1, z2, -, -, -⟩ := j2.facts
  obtain ⟨x0, x1, x2, -, -, -⟩ := k9.facts
  obtain ⟨y0, y1, y2, -, -, -⟩ := k7.facts
  obtain ⟨t0, t1, t2, -, -, -⟩ := k8.facts
  have K0 : Below U3.heap.size U3 U3.drew := below_drewN (Below.refl _ _) 1
  clear j1 j2 k7 k8 k9 f9 B3 hs3 G7 G8 G7'
  by_cases hP0 : P' = 0
  · obtain rfl : zs = 0 := hz0.2 hP0
    clear hz0 F9 HDIV
    go_wp2_with fail
    refine wp_region_held_drew (S := fun w' => w'.cell? ⟨w.heap.size + 1, 0, none⟩ = some (.bool n') ∧ w'.cell? ⟨w.heap.size + 1, 1, none⟩ = some (.slice A' a'.length ca') ∧ w'.cell? ⟨w.heap.size + 1, 2, none⟩ = some (.slice D' d'.length cd')) (by kernel_rfl) (keep3 E2.out K0) (fun hH0 => ?_)
    refine wpAnyH_take (i := 0) (oi := _) (v := ?_) rfl (by kernel_rfl) (by kernel_rfl) (by kernel_rfl) (fun _ _ _ h => h) (Or.inl ⟨by rfl, ?_⟩) (by assumption) ?_
    rotate_left
    · intro w' hSw
      obtain ⟨l1, l2, l3⟩ := hSw
      go_simp
      try with_reducible rfl
    try simp only [Act.put, List.getElem_toArray, List.getElem_cons_zero, List.setIfInBounds_toArray, List.set_cons_zero, List.set_cons_succ]
    refine wpAnyH_ready (rs := [1]) (by kernel_rfl) (by simp) ?_
    refine AllReadyH.cons (o := _) rfl (fun K' hK => ?_) AllReadyH.nil
    go_simp
    (go_at_call 36; (with_reducible refine Calls.mono (C7.out _ (T3.out.trans ((K0).mono T3.out.size))) ?_); rintro e w4 ⟨rfl, b4⟩; have KX := below_next K0 (Nat.le_refl _) b4)
    try go_wp2_with fail
    refine hK.out _ _ (keep3 E2.out KX) (fun hH1 => ?_)
    clear hK
    try simp only [Act.put, List.getElem_toArray, List.getElem_cons_zero, List.getElem_cons_succ, List.setIfInBounds_toArray, List.set_cons_zero, List.set_cons_succ]
    refine wpAnyH_take (i := 2) (oi := _) (v := ?_) rfl (by kernel_rfl) (by kernel_rfl) (by kernel_rfl) (fun _ _ _ h => h) (Or.inl ⟨by rfl, ?_⟩) (by assumption) ?_
    rotate_left
    · intro w' hSw
      obtain ⟨l1, l2, l3⟩ := hSw
      go_simp
      try with_reducible rfl
    try simp only [Act.put, List.getElem_toArray, List.getElem_cons_zero, List.getElem_cons_succ, List.setIfInBounds_toArray, List.set_cons_zero, List.set_cons_succ]
    refine wpAnyH_take (i := 3) (oi := _) (v := ?_) rfl (by kernel_rfl) (by kernel_rfl) (by kernel_rfl) (fun _ _ _ h => h) (Or.inl ⟨by rfl, ?_⟩) (by assumption) ?_
    rotate_left
    · intro w' hSw
      obtain ⟨l1, l2, l3⟩ := hSw
      go_simp
      try with_reducible rfl
    try simp only [Act.put, List.getElem_toArray, List.getElem_cons_zero, List.getElem_cons_succ, List.setIfInBounds_toArray, List.set_cons_zero, List.set_cons_succ]
    refine wpAnyH_take (i := 4) (oi := _) (v := undef) rfl (by kernel_rfl) (by kernel_rfl) (by kernel_rfl) (fun _ _ _ h => h) (Or.inr ⟨by rfl, rfl⟩) (by assumption) ?_
    try simp only [Act.put, List.getElem_toArray, List.getElem_cons_zero, List.getElem_cons_succ, List.setIfInBounds_toArray, List.set_cons_zero, List.set_cons_succ]
    refine wpAnyH_take (i := 5) (oi := _) (v := undef) rfl (by kernel_rfl) (by kernel_rfl) (by kernel_rfl) (fun _ _ _ h => h) (Or.inr ⟨by rfl, rfl⟩) (by assumption) ?_
    try simp only [Act.put, List.getElem_toArray, List.getElem_cons_zero, List.getElem_cons_succ, List.setIfInBounds_toArray, List.set_cons_zero, List.set_cons_succ]
    refine wpAnyH_take (i := 6) (oi := _) (v := undef) rfl (by kernel_rfl) (by kernel_rfl) (by kernel_rfl) (fun _ _ _ h => h) (Or.inr ⟨by rfl, rfl⟩) (by assumption) ?_
    try simp only [Act.put, List.getElem_toArray, List.getElem_cons_zero, List.getElem_cons_succ, List.setIfInBounds_toArray, List.set_cons_zero, List.set_cons_succ]
    refine wpAnyH_take (i := 7) (oi := _) (v := undef) rfl (by kernel_rfl) (by kernel_rfl) (by kernel_rfl) (fun _ _ _ h => h) (Or.inr ⟨by rfl, rfl⟩) (by assumption) ?_
    try simp only [Act.put, List.getElem_toArray, List.getElem_cons_zero, List.getElem_cons_succ, List.setIfInBounds_toArray, List.set_cons_zero, List.set_cons_succ]
    refine wpAnyH_take (i := 8) (oi := _) (v := undef) rfl (by kernel_rfl) (by kernel_rfl) (by kernel_rfl) (fun _ _ _ h => h) (Or.inr ⟨by rfl, rfl⟩) (by assumption) ?_
    try simp only [Act.put, List.getElem_toArray, List.getElem_cons_zero, List.getElem_cons_succ, List.setIfInBounds_toArray, List.set_cons_zero, List.set_cons_succ]
    refine wpAnyH_take (i := 9) (oi := _) (v := undef) rfl (by kernel_rfl) (by kernel_rfl) (by kernel_rfl) (fun _ _ _ h => h) (Or.inr ⟨by rfl, rfl⟩) (by assumption) ?_
    try simp only [Act.put, List.getElem_toArray, List.getElem_cons_zero, List.getElem_cons_succ, List.setIfInBounds_toArray, List.set_cons_zero, List.set_cons_succ]
    refine wpAnyH_take (i := 10) (oi := _) (v := undef) rfl (by kernel_rfl) (by kernel_rfl) (by kernel_rfl) (fun _ _ _ h => h) (Or.inr ⟨by rfl, rfl⟩) (by assumption) ?_
    try simp only [Act.put, List.getElem_toArray, List.getElem_cons_zero, List.getElem_cons_succ, List.setIfInBounds_toArray, List.set_cons_zero, List.set_cons_succ]
    refine wpAnyH_take (i := 11) (oi := _) (v := undef) rfl (by kernel_rfl) (by kernel_rfl) (by kernel_rfl) (fun _ _ _ h => h) (Or.inr ⟨by rfl, rfl⟩) (by assumption) ?_
    try simp only [Act.put, List.getElem_toArray, List.getElem_cons_zero, List.getElem_cons_succ, List.setIfInBounds_toArray, List.set_cons_zero, List.set_cons_succ]
    refine wpAnyH_take (i := 12) (oi := _) (v := undef) rfl (by kernel_rfl) (by kernel_rfl) (by kernel_rfl) (fun _ _ _ h => h) (Or.inr ⟨by rfl, rfl⟩) (by assumption) ?_
    try simp only [Act.put, List.getElem_toArray, List.getElem_cons_zero, List.getElem_cons_succ, List.setIfInBounds_toArray, List.set_cons_zero, List.set_cons_succ]
    refine wpAnyH_take (i := 13) (oi := _) (v := ?_) rfl (by kernel_rfl) (by kernel_rfl) (by kernel_rfl) (fun _ _ _ h => h) (Or.inl ⟨by rfl, ?_⟩) (by assumption) ?_
    rotate_left
    · intro w' hSw
      obtain ⟨l1, l2, l3⟩ := hSw
      go_simp
      try with_reducible rfl
    try simp only [Act.put, List.getElem_toArray, List.getElem_cons_zero, List.getElem_cons_succ, List.setIfInBounds_toArray, List.set_cons_zero, List.set_cons_succ]
    refine wpAnyH_done (by kernel_rfl) ?_ _
    have D1 := Lib.hid (E1.out.below KX E1.out.lt)
    have D2 := Lib.hid (E2.out.below KX E2.out.lt)
    have D7 := Lib.hid (HK7.out.below KX HK7.out.lt)
    have D8 := Lib.hid (HK8.out.below KX HK8.out.lt)
    have M0 : Below w4.heap.size w4 w4.drew := below_drewN (Below.refl _ _) 1
    obtain ⟨rr, hrr⟩ : ∃ r, (zc == 0) = r := ⟨_, rfl⟩
    obtain ⟨p0, p1, p2, -, -, -⟩ := D1.out.facts
    obtain ⟨z0, z1, z2, -, -, -⟩ := D2.out.facts
    obtain ⟨y0, y1, y2, -, -, -⟩ := D7.out.facts
    obtain ⟨t0, t1, t2, -, -, -⟩ := D8.out.facts
    go_wp2_with fail
    go_region_held3 (fun w' => (w'.cell? ⟨w.heap.size, 0, none⟩ = some (.bool n) ∧ w'.cell? ⟨w.heap.size, 1, none⟩ = some (.slice A a.length ca) ∧ w'.cell? ⟨w.heap.size, 2, none⟩ = some (.slice D d.length cd)) ∧ (w'.cell? ⟨w.heap.size + 1, 0, none⟩ = some (.bool n') ∧ w'.cell? ⟨w.heap.size + 1, 1, none⟩ = some (.slice A' a'.length ca') ∧ w'.cell? ⟨w.heap.size + 1, 2, none⟩ = some (.slice D' d'.length cd')) ∧ (w'.cell? ⟨g7, 0, none⟩ = some (.bool m7) ∧ w'.cell? ⟨g7, 1, none⟩ = some (.slice X7 a7.length c7) ∧ w'.cell? ⟨g7, 2, none⟩ = some (.slice Y7 d7.length e7)) ∧ (w'.cell? ⟨g8, 0, none⟩ = some (.bool m7) ∧ w'.cell? ⟨g8, 1, none⟩ = some (.slice X8 a7.length c8) ∧ w'.cell? ⟨g8, 2, none⟩ = some (.slice Y8 d7.length e8)))
      (first | (with_reducible exact ⟨keep3 D1.out M0, keep3 D2.out M0, keep3 D7.out M0, keep3 D8.out M0⟩) | (with_reducible exact ⟨keep3 D1.out M1, keep3 D2.out M1, keep3 D7.out M1, keep3 D8.out M1⟩) | (with_reducible exact ⟨keep3 D1.out M2, keep3 D2.out M2, keep3 D7.out M2, keep3 D8.out M2⟩) | (with_reducible exact ⟨keep3 D1.out M3, keep3 D2.out M3, keep3 D7.out M3, keep3 D8.out M3⟩) | (with_reducible exact ⟨keep3 D1.out M4, keep3 D2.out M4, keep3 D7.out M4, keep3 D8.out M4⟩) | (with_reducible exact ⟨keep3 D1.out M5, keep3 D2.out M5, keep3 D7.out M5, keep3 D8.out M5⟩) | (with_reducible exact ⟨keep3 D1.out M6, keep3 D2.out M6, keep3 D7.out M6, keep3 D8.out M6⟩) | (with_reducible exact ⟨keep3 D1.out M7, keep3 D2.out M7, keep3 D7.out M7, keep3 D8.out M7⟩) | (with_reducible exact ⟨keep3 D1.out M8, keep3 D2.out M8, keep3 D7.out M8, keep3 D8.out M8⟩) | (with_reducible exact ⟨keep3 D1.out M9, keep3 D2.out M9, keep3 D7.out M9, keep3 D8.out M9⟩) | (with_reducible exact ⟨keep3 D1.out M10, keep3 D2.out M10, keep3 D7.out M10, keep3 D8.out M10⟩) | go_keep)
      ((first
        | (go_at_call_of 8 (Value.slice X7 a7.length c7); (with_reducible refine Calls.mono (ref4_same_true m7 a7 d7 X7 Y7 X8 Y8 c7 e7 c8 e8 _ ((R78.out.1.1.on KX).on M0) ((R78.out.1.2.on KX).on M0) ((R78.out.2.1.on KX).on M0) ((R78.out.2.2.on KX).on M0) (by omega) (by omega)) ?_); rintro e z1 ⟨rfl, f1⟩; have M1 := below_next M0 (Nat.le_refl _) f1)
        | (go_at_call 9; (with_reducible refine Calls.mono (C10.out _ (T3.out.trans ((KX.trans (M1.mono KX.size)).mono T3.out.size))) ?_); rintro e z2 ⟨m2, a2, X2, c2, d2, Y2, e2, rfl, s2, r2, q2, f2⟩; have M2 := below_next M1 (Nat.le_refl _) f2)
        | (go_at_call 11; (with_reducible refine Calls.mono (C11.out _ (T3.out.trans ((KX.trans (M2.mono KX.size)).mono T3.out.size)) m2 a2 d2 X2 Y2 c2 e2 s2 r2 q2) ?_); rintro e z3 ⟨m3, a3, X3, c3, d3, Y3, e3, rfl, s3, r3, q3, f3⟩; have M3 := below_next M2 (Nat.le_refl _) f3)
        | (go_at_call_of 29 (Value.slice A a.length ca); (with_reducible refine Calls.mono (C8.out z3 (T3.out.trans ((KX.trans (M3.mono KX.size)).mono T3.out.size))) ?_); rintro e z4 ⟨m4, a4, X4, c4, d4, Y4, e4, rfl, s4, r4, q4, f4⟩; have M4 := below_next M3 (Nat.le_refl _) f4; have l3 := s3.2; obtain ⟨rfl, rfl, rfl⟩ := SG.same s3 s4)
        | (go_at_call_of 8 (Value.slice X3 a3.length c3); (with_reducible refine Calls.mono (ref4_same_true m3 a3 d3 X3 Y3 X4 Y4 c3 e3 c4 e4 _ (r3.on f4) (q3.on f4) r4 q4 (by omega) (by omega)) ?_); rintro e z5 ⟨rfl, f5⟩; have M5 := below_next M4 (Nat.le_refl _) f5)
        | (go_at_call 34; (with_reducible refine Calls.mono (C12.out _ (T3.out.trans ((KX.trans (M5.mono KX.size)).mono T3.out.size))) ?_); rintro e z6 ⟨rfl, f6⟩; have M6 := below_next M5 (Nat.le_refl _) f6)
        | (go_at_call_of 29 (Value.slice A a.length ca); (with_reducible refine Calls.mono (C8.out z6 (T3.out.trans ((KX.trans (M6.mono KX.size)).mono T3.out.size))) ?_); rintro e z7 ⟨u7, b7, U7, i7, g7', V7, j7, rfl, s7, r7, q7, f7⟩; have M7 := below_next M6 (Nat.le_refl _) f7)
        | (go_at_call_of 29 (Value.slice A' a'.length ca'); (with_reducible refine Calls.mono (C9.out _ (T3.out.trans ((KX.trans (M7.mono KX.size)).mono T3.out.size))) ?_); rintro e z8 ⟨u8, b8, U8, i8, g8', V8, j8, rfl, s8, r8, q8, f8⟩; have M8 := below_next M7 (Nat.le_refl _) f8; have l7 := s7.2; have heq := same_is HQ.out.1 HQ.out.2 HZC.out hrr s7.1 s8.1)
        | (go_at_call_of 8 (Value.slice U7 b7.length i7); (with_reducible refine Calls.mono (ref4_same_is rr u7 u8 b7 g7' b8 g8' U7 V7 U8 V8 i7 j7 i8 j8 _ heq (r7.on f8) (q7.on f8) r8 q8 (by omega) (by omega)) ?_); rintro e z9 ⟨rfl, f9⟩; have M9 := below_next M8 (Nat.le_refl _) f9)
        | (go_at_call 21; (with_reducible refine Calls.mono (C13.out _ (T3.out.trans ((KX.trans (M9.mono KX.size)).mono T3.out.size))) ?_); rintro e z10 ⟨rfl, f10⟩; have M10 := below_next M9 (Nat.le_refl _) f10)))
    go_wp2_with fail
    go_ret
    exact ⟨rfl, HB0.out.trans (((T3.out.trans ((KX.trans (M10.mono KX.size)).mono T3.out.size))).mono HB0.out.size)⟩
  · have hzv : zs = 1 ∨ zs = -1 := by
      have h1 : ¬ zs = 0 := fun hh => hP0 (hz0.1 hh)
      rw [← HZS.out] at h1 ⊢
      unfold sgn at h1 ⊢
      split
      · exact .inr rfl
      · split
        · exact .inl rfl
        · exact absurd (by rw [if_neg (by omega), if_neg (by omega)]) h1
    obtain ⟨hd1, hd2⟩ := HDIV.out hP0
    have hf := F9.out
    obtain ⟨aq, dq, rfl, rfl, rfl, sq, rq, qq⟩ : ∃ aq dq, er = 0 ∧ la = aq.length ∧ ld = dq.length ∧ SF P Q n9 aq c9 dq e9 ∧ Rd U3 (fun g => g < U3.heap.size) .u32 A9 aq ∧ Rd U3 (fun g => g < U3.heap.size) .u32 D9 dq := by
      rcases hf with ⟨h0, -⟩ | ⟨-, e1, e2, aq, dq, e3, e4, e5, e6, e7, e8, e9', e10, e11, e12⟩
      · omega
      · exact ⟨aq, dq, e2, e3, e4, SF.conv hd2 HQ.out.1 hd1 ⟨e1, e5, e6, e7, e8, e9', e10⟩, e11, e12⟩
    have HSQ := Lib.hid (And.intro sq (And.intro rq qq))
    clear hz0 hf F9 HDIV HZS hd1 hd2 sq rq qq
    rcases hzv with rfl | rfl
    all_goals
      go_wp2_with fail
      go_region_held3 (fun w' => (w'.cell? ⟨w.heap.size, 0, none⟩ = some (.bool n) ∧ w'.cell? ⟨w.heap.size, 1, none⟩ = some (.slice A a.length ca) ∧ w'.cell? ⟨w.heap.size, 2, none⟩ = some (.slice D d.length cd)) ∧ (w'.cell? ⟨w.heap.size + 1, 0, none⟩ = some (.bool n') ∧ w'.cell? ⟨w.heap.size + 1, 1, none⟩ = some (.slice A' a'.length ca') ∧ w'.cell? ⟨w.heap.size + 1, 2, none⟩ = some (.slice D' d'.length cd')) ∧ (w'.cell? ⟨g9, 0, none⟩ = some (.bool n9) ∧ w'.cell? ⟨g9, 1, none⟩ = some (.slice A9 aq.length c9) ∧ w'.cell? ⟨g9, 2, none⟩ = some (.slice D9 dq.length e9)))
        (first | (with_reducible exact ⟨keep3 E1.out K0, keep3 E2.out K0, keep3 HK9.out K0⟩) | (with_reducible exact ⟨keep3 E1.out KA, keep3 E2.out KA, keep3 HK9.out KA⟩) | (with_reducible exact ⟨keep3 E1.out KB, keep3 E2.out KB, keep3 HK9.out KB⟩) | (with_reducible exact ⟨keep3 E1.out KC, keep3 E2.out KC, keep3 HK9.out KC⟩) | go_keep)
        ((first
          | (go_at_call 36; (with_reducible refine Calls.mono (C7.out _ (T3.out.trans ((K0).mono T3.out.size))) ?_); rintro e w4 ⟨rfl, b4⟩; have KA := below_next K0 (Nat.le_refl _) b4)
          | (go_at_call 29; (with_reducible refine Calls.mono (C8.out _ (T3.out.trans ((KA).mono T3.out.size))) ?_); rintro e w5 ⟨u5, b5', U5, i5', g5', V5, j5, rfl, s5, r5, q5, b5⟩; have KB := below_next KA (Nat.le_refl _) b5; have l5 := s5.2; obtain ⟨rfl, rfl, rfl⟩ := SF.same HSQ.out.1 s5.1)
          | (go_at_call_of 8 (Value.slice A9 aq.length c9); (with_reducible refine Calls.mono (ref4_same_true n9 aq dq A9 D9 U5 V5 c9 e9 i5' j5 _ (HSQ.out.2.1.on KB) (HSQ.out.2.2.on KB) r5 q5 (by omega) (by omega)) ?_); rintro e w6 ⟨rfl, b6⟩; have KC := below_next KB (Nat.le_refl _) b6)))
      clear r5 q5 s5
      have D1 := Lib.hid (E1.out.below KC E1.out.lt)
      have D2 := Lib.hid (E2.out.below KC E2.out.lt)
      have D7 := Lib.hid (HK7.out.below KC HK7.out.lt)
      have D8 := Lib.hid (HK8.out.below KC HK8.out.lt)
      have M0 : Below w6.heap.size w6 w6.drew := below_drewN (Below.refl _ _) 1
      obtain ⟨rr, hrr⟩ : ∃ r, (zc == 0) = r := ⟨_, rfl⟩
      obtain ⟨p0, p1, p2, -, -, -⟩ := D1.out.facts
      obtain ⟨z0, z1, z2, -, -, -⟩ := D2.out.facts
      obtain ⟨y0, y1, y2, -, -, -⟩ := D7.out.facts
      obtain ⟨t0, t1, t2, -, -, -⟩ := D8.out.facts
      go_wp2_with fail
      go_region_held3 (fun w' => (w'.cell? ⟨w.heap.size, 0, none⟩ = some (.bool n) ∧ w'.cell? ⟨w.heap.size, 1, none⟩ = some (.slice A a.length ca) ∧ w'.cell? ⟨w.heap.size, 2, none⟩ = some (.slice D d.length cd)) ∧ (w'.cell? ⟨w.heap.size + 1, 0, none⟩ = some (.bool n') ∧ w'.cell? ⟨w.heap.size + 1, 1, none⟩ = some (.slice A' a'.length ca') ∧ w'.cell? ⟨w.heap.size + 1, 2, none⟩ = some (.slice D' d'.length cd')) ∧ (w'.cell? ⟨g7, 0, none⟩ = some (.bool m7) ∧ w'.cell? ⟨g7, 1, none⟩ = some (.slice X7 a7.length c7) ∧ w'.cell? ⟨g7, 2, none⟩ = some (.slice Y7 d7.length e7)) ∧ (w'.cell? ⟨g8, 0, none⟩ = some (.bool m7) ∧ w'.cell? ⟨g8, 1, none⟩ = some (.slice X8 a7.length c8) ∧ w'.cell? ⟨g8, 2, none⟩ = some (.slice Y8 d7.length e8)))
        (first | (with_reducible exact ⟨keep3 D1.out M0, keep3 D2.out M0, keep3 D7.out M0, keep3 D8.out M0⟩) | (with_reducible exact ⟨keep3 D1.out M1, keep3 D2.out M1, keep3 D7.out M1, keep3 D8.out M1⟩) | (with_reducible exact ⟨keep3 D1.out M2, keep3 D2.out M2, keep3 D7.out M2, keep3 D8.out M2⟩) | (with_reducible exact ⟨keep3 D1.out M3, keep3 D2.out M3, keep3 D7.out M3, keep3 D8.out M3⟩) | (with_reducible exact ⟨keep3 D1.out M4, keep3 D2.out M4, keep3 D7.out M4, keep3 D8.out M4⟩) | (with_reducible exact ⟨keep3 D1.out M5, keep3 D2.out M5, keep3 D7.out M5, keep3 D8.out M5⟩) | (with_reducible exact ⟨keep3 D1.out M6, keep3 D2.out M6, keep3 D7.out M6, keep3 D8.out M6⟩) | (with_reducible exact ⟨keep3 D1.out M7, keep3 D2.out M7, keep3 D7.out M7, keep3 D8.out M7⟩) | (with_reducible exact ⟨keep3 D1.out M8, keep3 D2.out M8, keep3 D7.out M8, keep3 D8.out M8⟩) | (with_reducible exact ⟨keep3 D1.out M9, keep3 D2.out M9, keep3 D7.out M9, keep3 D8.out M9⟩) | (with_reducible exact ⟨keep3 D1.out M10, keep3 D2.out M10, keep3 D7.out M10, keep3 D8.out M10⟩) | go_keep)
        ((first
          | (go_at_call_of 8 (Value.slice X7 a7.length c7); (with_reducible refine Calls.mono (ref4_same_true m7 a7 d7 X7 Y7 X8 Y8 c7 e7 c8 e8 _ ((R78.out.1.1.on KC).on M0) ((R78.out.1.2.on KC).on M0) ((R78.out.2.1.on KC).on M0) ((R78.out.2.2.on KC).on M0) (by omega) (by omega)) ?_); rintro e z1 ⟨rfl, f1⟩; have M1 := below_next M0 (Nat.le_refl _) f1)
          | (go_at_call 9; (with_reducible refine Calls.mono (C10.out _ (T3.out.trans ((KC.trans (M1.mono KC.size)).mono T3.out.size))) ?_); rintro e z2 ⟨m2, a2, X2, c2, d2, Y2, e2, rfl, s2, r2, q2, f2⟩; have M2 := below_next M1 (Nat.le_refl _) f2)
          | (go_at_call 11; (with_reducible refine Calls.mono (C11.out _ (T3.out.trans ((KC.trans (M2.mono KC.size)).mono T3.out.size)) m2 a2 d2 X2 Y2 c2 e2 s2 r2 q2) ?_); rintro e z3 ⟨m3, a3, X3, c3, d3, Y3, e3, rfl, s3, r3, q3, f3⟩; have M3 := below_next M2 (Nat.le_refl _) f3)
          | (go_at_call_of 29 (Value.slice A a.length ca); (with_reducible refine Calls.mono (C8.out z3 (T3.out.trans ((KC.trans (M3.mono KC.size)).mono T3.out.size))) ?_); rintro e z4 ⟨m4, a4, X4, c4, d4, Y4, e4, rfl, s4, r4, q4, f4⟩; have M4 := below_next M3 (Nat.le_refl _) f4; have l3 := s3.2; obtain ⟨rfl, rfl, rfl⟩ := SG.same s3 s4)
          | (go_at_call_of 8 (Value.slice X3 a3.length c3); (with_reducible refine Calls.mono (ref4_same_true m3 a3 d3 X3 Y3 X4 Y4 c3 e3 c4 e4 _ (r3.on f4) (q3.on f4) r4 q4 (by omega) (by omega)) ?_); rintro e z5 ⟨rfl, f5⟩; have M5 := below_next M4 (Nat.le_refl _) f5)
          | (go_at_call 34; (with_reducible refine Calls.mono (C12.out _ (T3.out.trans ((KC.trans (M5.mono KC.size)).mono T3.out.size))) ?_); rintro e z6 ⟨rfl, f6⟩; have M6 := below_next M5 (Nat.le_refl _) f6)
          | (go_at_call_of 29 (Value.slice A a.length ca); (with_reducible refine Calls.mono (C8.out z6 (T3.out.trans ((KC.trans (M6.mono KC.size)).mono T3.out.size))) ?_); rintro e z7 ⟨u7, b7, U7, i7, g7', V7, j7, rfl, s7, r7, q7, f7⟩; have M7 := below_next M6 (Nat.le_refl _) f7)
          | (go_at_call_of 29 (Value.slice A' a'.length ca'); (with_reducible refine Calls.mono (C9.out _ (T3.out.trans ((KC.trans (M7.mono KC.size)).mono T3.out.size))) ?_); rintro e z8 ⟨u8, b8, U8, i8, g8', V8, j8, rfl, s8, r8, q8, f8⟩; have M8 := below_next M7 (Nat.le_refl _) f8; have l7 := s7.2; have heq := same_is HQ.out.1 HQ.out.2 HZC.out hrr s7.1 s8.1)
          | (go_at_call_of 8 (Value.slice U7 b7.length i7); (with_reducible refine Calls.mono (ref4_same_is rr u7 u8 b7 g7' b8 g8' U7 V7 U8 V8 i7 j7 i8 j8 _ heq (r7.on f8) (q7.on f8) r8 q8 (by omega) (by omega)) ?_); rintro e z9 ⟨rfl, f9⟩; have M9 := below_next M8 (Nat.le_refl _) f9)
          | (go_at_call 21; (with_reducible refine Calls.mono (C13.out _ (T3.out.trans ((KC.trans (M9.mono KC.size)).mono T3.out.size))) ?_); rintro e z10 ⟨rfl, f10⟩; have M10 := below_next M9 (Nat.le_refl _) f10)))
      go_wp2_with fail
      go_ret
      exact ⟨rfl, HB0.out.trans (((T3.out.trans ((KC.trans (M10.mono KC.size)).mono T3.out.size))).mono HB0.out.size)⟩
end Go.Proofs.YtidbpkibjficnaaGreatDoor
