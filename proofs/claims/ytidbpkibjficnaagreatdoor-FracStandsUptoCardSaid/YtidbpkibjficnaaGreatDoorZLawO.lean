/- The law FracSums: sums, differences, products are the document's own. -/
import Derived.Test.YtidbpkibjficnaaGreatDoorZFpV
import Derived.Test.YtidbpkibjficnaaGreatDoorZFpZ
import Derived.Test.YtidbpkibjficnaaGreatDoorZFrV
import Derived.Test.YtidbpkibjficnaaGreatDoorZFrZ
import Derived.Deep.RegionWith
import Derived.Deep.RegionHeld3
namespace Go.Proofs.YtidbpkibjficnaaGreatDoor
open Go.RowKit Num

/-- two that are one, word by word -/
theorem ref4_same_true (n : Bool) (a d : List Nat) (A D A' D' : Option Addr) (ca cd ca' cd' : Nat) (w : World) (h1 : Rd w (fun g => g < w.heap.size) .u32 A a) (h2 : Rd w (fun g => g < w.heap.size) .u32 D d) (h3 : Rd w (fun g => g < w.heap.size) .u32 A' a) (h4 : Rd w (fun g => g < w.heap.size) .u32 D' d) (hl1 : a.length ≤ 4611686018427387904) (hl2 : d.length ≤ 4611686018427387904) :
    Calls Tryz.prog 8 #[.agg #[.bool n, .slice A a.length ca, .slice D d.length cd], .agg #[.bool n, .slice A' a.length ca', .slice D' d.length cd']] w fun e w' => e = .returned (.bool true) ∧ Below w.heap.size w w' := by
  have := ref4_Same n n a d a d A D A' D' ca cd ca' cd' w h1 h2 h3 h4 hl1 hl2
  rwa [decide_eq_true ⟨⟨rfl, rfl⟩, rfl⟩] at this
theorem up_lt {n : Bool} {a d : List Nat} (ha : Dg 4294967296 a) : (upN n a d).natAbs < 4294967296 ^ a.length := Nat.lt_of_le_of_lt (up_abs n a d) (val_lt ha)
theorem loD_le {d : List Nat} (hd : Dg 4294967296 d) : loD d ≤ 4294967296 ^ d.length := by
  unfold loD
  split
  · exact Nat.pow_pos (by omega)
  · exact Nat.le_of_lt (val_lt hd)
/-- how great a product of such parts is -/
theorem prod_lt {x y i j k : Nat} (hx : x < 4294967296 ^ i) (hy : y ≤ 4294967296 ^ j) (hk : i + j ≤ k) : x * y < 4294967296 ^ k := by
  refine Nat.lt_of_lt_of_le ?_ (Nat.pow_le_pow_right (n := 4294967296) (by omega) hk)
  rw [Nat.pow_add]
  have h1 : x * y ≤ x * 4294967296 ^ j := Nat.mul_le_mul_left _ hy
  have h2 : x * 4294967296 ^ j < 4294967296 ^ i * 4294967296 ^ j := Nat.mul_lt_mul_of_pos_right hx (Nat.pow_pos (by omega))
  omega
theorem prod_le {x y i j k : Nat} (hx : x ≤ 4294967296 ^ i) (hy : y ≤ 4294967296 ^ j) (hk : i + j ≤ k) : x * y ≤ 4294967296 ^ k := by
  refine Nat.le_trans ?_ (Nat.pow_le_pow_right (n := 4294967296) (by omega) hk)
  rw [Nat.pow_add]
  exact Nat.mul_le_mul hx hy
theorem lt_of_le_pow {x k m : Nat} (hx : x ≤ 4294967296 ^ k) (h : k < m) : x < 4294967296 ^ m := by
  refine Nat.lt_of_le_of_lt hx (Nat.pow_lt_pow_right (by omega) h)
theorem sum_lt {P P' : Int} {Q Q' i j k l s : Nat} (h1 : P.natAbs < 4294967296 ^ i) (h2 : P'.natAbs < 4294967296 ^ j) (h3 : Q ≤ 4294967296 ^ k) (h4 : Q' ≤ 4294967296 ^ l) (e1 : i + l ≤ s) (e2 : j + k ≤ s) : (P * (Q' : Int) + P' * (Q : Int)).natAbs < 4294967296 ^ (s + 1) := by
  have a1 := prod_lt h1 h4 e1
  have a2 := prod_lt h2 h3 e2
  have a3 := Int.natAbs_add_le (P * (Q' : Int)) (P' * (Q : Int))
  rw [Int.natAbs_mul, Int.natAbs_mul, Int.natAbs_natCast, Int.natAbs_natCast] at a3
  rw [Nat.pow_succ]
  omega
theorem sub_lt {P P' : Int} {Q Q' i j k l s : Nat} (h1 : P.natAbs < 4294967296 ^ i) (h2 : P'.natAbs < 4294967296 ^ j) (h3 : Q ≤ 4294967296 ^ k) (h4 : Q' ≤ 4294967296 ^ l) (e1 : i + l ≤ s) (e2 : j + k ≤ s) : (P * (Q' : Int) - P' * (Q : Int)).natAbs < 4294967296 ^ (s + 1) := by
  have := sum_lt (P := P) (P' := -P') h1 (by rw [Int.natAbs_neg]; exact h2) h3 h4 e1 e2
  rwa [Int.neg_mul, ← Int.sub_eq_add_neg] at this
/-- a reduced fraction of at most m words each -/
def SG (P : Int) (Q m : Nat) : Shape := fun n a ca d cd => SF P Q n a ca d cd ∧ a.length ≤ m ∧ d.length ≤ m
theorem SF.toG {P : Int} {Q m : Nat} (hP : P.natAbs < 4294967296 ^ m) (hQ : Q < 4294967296 ^ m) {n : Bool} {a d : List Nat} {ca cd : Nat} (k : SF P Q n a ca d cd) : SG P Q m n a ca d cd := by
  refine ⟨k, ?_⟩
  obtain ⟨-, -, -, h3, h4, h5, h6⟩ := k
  constructor
  · refine h3.2.length_le (b := 4294967296) (by omega) ?_
    rw [h5]; exact Nat.lt_of_le_of_lt (Nat.div_le_self _ _) hP
  · refine h4.2.length_le (b := 4294967296) (by omega) ?_
    rw [h6]; exact Nat.lt_of_le_of_lt (Nat.div_le_self _ _) hQ
theorem SG.toV {P : Int} {Q m : Nat} (hQ : 0 < Q) {n : Bool} {a d : List Nat} {ca cd : Nat} (k : SG P Q m n a ca d cd) : SV P Q m n a ca d cd := by
  have h := k.1.toV (m := P.natAbs + Q) hQ (Nat.lt_of_lt_of_le (Nat.lt_pow_self (n := P.natAbs) (by omega)) (Nat.pow_le_pow_right (by omega) (by omega))) (Nat.lt_of_lt_of_le (Nat.lt_pow_self (n := Q) (by omega)) (Nat.pow_le_pow_right (by omega) (by omega)))
  obtain ⟨h1, h2, h3, h4, h5, h6, h7⟩ := h
  exact ⟨h1, h2, h3, h4, k.2.1, k.2.2, h7⟩
theorem SG.same {P : Int} {Q m m' : Nat} {n n' : Bool} {a a' d d' : List Nat} {ca ca' cd cd' : Nat} (k : SG P Q m n a ca d cd) (k' : SG P Q m' n' a' ca' d' cd') : n = n' ∧ a = a' ∧ d = d' := SF.same k.1 k'.1
set_option maxRecDepth 100000 in
set_option maxHeartbeats 25600000 in
theorem walk_FracSums (n n' : Bool) (a d a' d' : List Nat) (A D A' D' : Option Addr) (ca cd ca' cd' : Nat) (w : World) (h : Rd w (fun g => g < w.heap.size) .u32 A a) (h' : Rd w (fun g => g < w.heap.size) .u32 D d) (q : Rd w (fun g => g < w.heap.size) .u32 A' a') (q' : Rd w (fun g => g < w.heap.size) .u32 D' d') (hl : a.length + d.length + a'.length + d'.length ≤ 1048576) (hc : a.length ≤ ca) (hc' : d.length ≤ cd) (gc : a'.length ≤ ca') (gc' : d'.length ≤ cd') (ha : Dg 4294967296 a) (hd : Dg 4294967296 d) (ga : Dg 4294967296 a') (gd : Dg 4294967296 d') (htab : Tab w) :
    Calls Tryz.prog 3 #[.agg #[.bool n, .slice A a.length ca, .slice D d.length cd], .agg #[.bool n', .slice A' a'.length ca', .slice D' d'.length cd']] w fun e w' => e = .returned (.bool true) ∧ Below w.heap.size w w' := by
  obtain ⟨W, hW, k1, k2, b0, s0⟩ := bx2 w 26 26 (.bool n) (.slice A a.length ca) (.slice D d.length cd) (.bool n') (.slice A' a'.length ca') (.slice D' d'.length cd')
  obtain ⟨p0, p1, p2, -, -, -⟩ := k1.facts
  obtain ⟨z0, z1, z2, -, -, -⟩ := k2.facts
  have h := h.on b0
  have h' := h'.on b0
  have q := q.on b0
  have q' := q'.on b0
  have hQ := loD_pos d
  have hQ' := loD_pos d'
  have bP := up_lt (n := n) (d := d) ha
  have bP' := up_lt (n := n') (d := d') ga
  have bQ := loD_le hd
  have bQ' := loD_le gd
  obtain ⟨P, hP⟩ : ∃ P, upN n a d = P := ⟨_, rfl⟩
  obtain ⟨P', hP'⟩ : ∃ P, upN n' a' d' = P := ⟨_, rfl⟩
  obtain ⟨Q, hQe⟩ : ∃ Q, loD d = Q := ⟨_, rfl⟩
  obtain ⟨Q', hQe'⟩ : ∃ Q, loD d' = Q := ⟨_, rfl⟩
  rw [hP] at bP
  rw [hP'] at bP'
  rw [hQe] at bQ hQ
  rw [hQe'] at bQ' hQ'
  obtain ⟨s, hs⟩ : ∃ s, s = 1048576 := ⟨_, rfl⟩
  rw [← hs] at hl
  have hS : SV P Q (s + 1) n a ca d cd := ⟨hc, hc', ha, hd, by omega, by omega, by rw [hP, hQe]⟩
  have hT : SV P' Q' (s + 1) n' a' ca' d' cd' := ⟨gc, gc', ga, gd, by omega, by omega, by rw [hP', hQe']⟩
  clear hP hP' hQe hQe'
  have tab : ∀ V, Below W.heap.size W V → Tab V := fun V hV => htab.on (b0.trans (hV.mono b0.size))
  have bQQ : Q * Q' < 4294967296 ^ (s + 1) := lt_of_le_pow (prod_le bQ bQ' (Nat.le_refl _)) (by omega)
  have bQQ' : Q' * Q < 4294967296 ^ (s + 1) := by rw [Nat.mul_comm]; exact bQQ
  have bS := sum_lt bP bP' bQ bQ' (s := s) (by omega) (by omega)
  have bS' := sum_lt bP' bP bQ' bQ (s := s) (by omega) (by omega)
  have bD := sub_lt bP bP' bQ bQ' (s := s) (by omega) (by omega)
  have bM : (P * P').natAbs < 4294967296 ^ (s + 1) := by
    rw [Int.natAbs_mul]
    exact Nat.lt_of_lt_of_le (prod_lt bP (Nat.le_of_lt bP') (Nat.le_refl _)) (Nat.pow_le_pow_right (by omega) (by omega))
  have bPs : P.natAbs < 4294967296 ^ (s + 1) := Nat.lt_of_lt_of_le bP (Nat.pow_le_pow_right (by omega) (by omega))
  have bPs' : P'.natAbs < 4294967296 ^ (s + 1) := Nat.lt_of_lt_of_le bP' (Nat.pow_le_pow_right (by omega) (by omega))
  have bQs : Q < 4294967296 ^ (s + 1) := lt_of_le_pow bQ (by omega)
  have bQs' : Q' < 4294967296 ^ (s + 1) := lt_of_le_pow bQ' (by omega)
  have bN : (-P).natAbs < 4294967296 ^ (s + 1) := by rw [Int.natAbs_neg]; exact bPs
  have bH : Q * 2 < 4294967296 ^ (s + 1) := by
    have e1 : Q ≤ 4294967296 ^ s := Nat.le_trans bQ (Nat.pow_le_pow_right (by omega) (by omega))
    have e2 : 0 < 4294967296 ^ s := Nat.pow_pos (by omega)
    rw [Nat.pow_succ]
    omega
  have bT := sum_lt bP bS' bQ (prod_le bQ' bQ (Nat.le_refl _)) (s := s + 1 + s) (by omega) (by omega)
  have bTQ : Q * (Q' * Q) < 4294967296 ^ (s + 1 + s + 1) := lt_of_le_pow (prod_le bQ (prod_le bQ' bQ (Nat.le_refl _)) (Nat.le_refl _)) (by omega)
  have c1 := fun (V : World) (hV : Below W.heap.size W V) => (fv_Add P P' Q Q' (s + 1) hQ hQ' (by omega) (by omega) n n' a d a' d' A D A' D' ca cd ca' cd' V hS hT (h.on hV) (h'.on hV) (q.on hV) (q'.on hV)).mono fun _ _ => Gv.imp fun _ _ _ _ _ => SF.toG bS bQQ
  have c2 := fun (V : World) (hV : Below W.heap.size W V) => (rv_Add P P' Q Q' (s + 1) hQ hQ' (by omega) n n' a d a' d' A D A' D' ca cd ca' cd' V hS hT (h.on hV) (h'.on hV) (q.on hV) (q'.on hV)).mono fun _ _ => Gv.imp fun _ _ _ _ _ => SF.toG bS bQQ
  have c3 := fun (V : World) (hV : Below W.heap.size W V) => (fv_Sub P P' Q Q' (s + 1) hQ hQ' (by omega) (by omega) n n' a d a' d' A D A' D' ca cd ca' cd' V hS hT (h.on hV) (h'.on hV) (q.on hV) (q'.on hV)).mono fun _ _ => Gv.imp fun _ _ _ _ _ => SF.toG bD bQQ
  have c4 := fun (V : World) (hV : Below W.heap.size W V) => (rv_Sub P P' Q Q' (s + 1) hQ hQ' (by omega) n n' a d a' d' A D A' D' ca cd ca' cd' V hS hT (h.on hV) (h'.on hV) (q.on hV) (q'.on hV)).mono fun _ _ => Gv.imp fun _ _ _ _ _ => SF.toG bD bQQ
  have c5 := fun (V : World) (hV : Below W.heap.size W V) => (fv_Mul P P' Q Q' (s + 1) hQ hQ' (by omega) (by omega) n n' a d a' d' A D A' D' ca cd ca' cd' V hS hT (h.on hV) (h'.on hV) (q.on hV) (q'.on hV)).mono fun _ _ => Gv.imp fun _ _ _ _ _ => SF.toG bM bQQ
  have c6 := fun (V : World) (hV : Below W.heap.size W V) => (rv_Mul P P' Q Q' (s + 1) hQ hQ' (by omega) n n' a d a' d' A D A' D' ca cd ca' cd' V hS hT (h.on hV) (h'.on hV) (q.on hV) (q'.on hV)).mono fun _ _ => Gv.imp fun _ _ _ _ _ => SF.toG bM bQQ
  have c7 := fun (V : World) (hV : Below W.heap.size W V) => (fv_Neg P Q (s + 1) hQ (by omega) (by omega) n a d A D ca cd V hS (h.on hV) (h'.on hV)).mono fun _ _ => Gv.imp fun _ _ _ _ _ => SF.toG bN bQs
  have c8 := fun (V : World) (hV : Below W.heap.size W V) => (rv_Neg P Q (s + 1) hQ (by omega) n a d A D ca cd V hS (h.on hV) (h'.on hV)).mono fun _ _ => Gv.imp fun _ _ _ _ _ => SF.toG bN bQs
  have c9 := fun (V : World) (hV : Below W.heap.size W V) => (fv_Half P Q (s + 1) hQ (by omega) (by omega) n a d A D ca cd V hS (h.on hV) (h'.on hV)).mono fun _ _ => Gv.imp fun _ _ _ _ _ => SF.toG bPs bH
  have b1s : (1 : Int).natAbs < 4294967296 ^ (s + 1) := Nat.lt_of_lt_of_le (by decide) (Nat.pow_le_pow_right (n := 4294967296) (i := 1) (by omega) (by omega))
  have b2s : 2 < 4294967296 ^ (s + 1) := Nat.lt_of_lt_of_le (by decide) (Nat.pow_le_pow_right (n := 4294967296) (i := 1) (by omega) (by omega))
  have c10 := fun (V : World) => (ref4_Half V).mono fun _ _ hh => (gv_of_f hh).imp fun _ _ _ _ _ => SF.toG (m := s + 1) b1s b2s
  have c11 : ∀ (V : World) (hV : Below W.heap.size W V) (n2 : Bool) (a2 d2 : List Nat) (X2 Y2 : Option Addr) (c2 e2 : Nat), SG 1 2 (s + 1) n2 a2 c2 d2 e2 → Rd V (fun g => g < V.heap.size) .u32 X2 a2 → Rd V (fun g => g < V.heap.size) .u32 Y2 d2 → Calls Tryz.prog 14 #[.agg #[.bool n, .slice A a.length ca, .slice D d.length cd], .agg #[.bool n2, .slice X2 a2.length c2, .slice Y2 d2.length e2]] V (Gv (SG P (Q * 2) (s + 1)) V) := fun V hV n2 a2 d2 X2 Y2 c2 e2 hh r r' =>
    (rv_Mul P 1 Q 2 (s + 1) hQ (by omega) (by omega) n n2 a d a2 d2 A D X2 Y2 ca cd c2 e2 V hS (hh.toV (by omega)) (h.on hV) (h'.on hV) r r').mono fun _ _ => Gv.imp fun _ _ _ _ _ hk => SF.toG bPs bH (by rwa [Int.mul_one] at hk)
  have cA1 := (fv_Add P (P' * (Q : Int) + P * (Q' : Int)) Q (Q' * Q) (s + 1) hQ (Nat.mul_pos hQ' hQ) (by omega) (by omega)).imp (S' := SF P Q) (U' := SF (P' * (Q : Int) + P * (Q' : Int)) (Q' * Q)) (fun _ _ _ _ _ => SF.toV hQ bPs bQs) (fun _ _ _ _ _ => SF.toV (Nat.mul_pos hQ' hQ) bS' bQQ') (fun _ _ _ _ _ => SF.toG bT bTQ)
  have cA2 := (fv_Add P' P Q' Q (s + 1) hQ' hQ (by omega) (by omega)).imp (S' := SF P' Q') (U' := SF P Q) (fun _ _ _ _ _ => SF.toV hQ' bPs' bQs') (fun _ _ _ _ _ => SF.toV hQ bPs bQs) (fun _ _ _ _ _ hk => hk)
  have cR1 := fv_Reduce P Q (s + 1) hQ (by omega) (by omega)
  have cR2 := fv_Reduce P' Q' (s + 1) hQ' (by omega) (by omega)
  have c12 : ∀ (V : World) (g : Nat) (hV : Below W.heap.size W V), Blk V g 26 [.bool n, .slice A a.length ca, .slice D d.length cd, .bool n', .slice A' a'.length ca', .slice D' d'.length cd', .bool n, .slice A a.length ca, .slice D d.length cd] → Calls Tryz.prog 19 #[.slice (some ⟨g, 0, none⟩) 3 3] V (Gv (SG (P * ((Q' * Q : Nat) : Int) + (P' * (Q : Int) + P * (Q' : Int)) * (Q : Int)) (Q * (Q' * Q)) (s + 1 + s + 1)) V) := fun V g hV k => by
    have kk := fun (U : World) (hU : Below V.heap.size V U) => k.below hU k.lt
    refine frac_Sum3 (SF P Q) (SF (P' * (Q : Int) + P * (Q' : Int)) (Q' * Q)) _ g 0 V cA1 (fun U hU => ?_) (fun U hU => ?_)
    · have e := kk U hU
      exact frac_Sum1 (SV P Q (s + 1)) (SF P Q) cR1 n a d A D ca cd g 0 3 U hS e.lt (e.cell 0 rfl) (e.cell 1 rfl) (e.cell 2 rfl) (h.on (hV.trans (hU.mono hV.size))) (h'.on (hV.trans (hU.mono hV.size)))
    · refine frac_Sum2 (SF P' Q') (SF P Q) _ g 3 U cA2 (fun U' hU' => ?_) (fun U' hU' => ?_)
      · have e := kk U' (hU.trans (hU'.mono hU.size))
        exact frac_Sum1 (SV P' Q' (s + 1)) (SF P' Q') cR2 n' a' d' A' D' ca' cd' g 3 2 U' hT e.lt (e.cell 3 rfl) (e.cell 4 rfl) (e.cell 5 rfl) (q.on ((hV.trans (hU.mono hV.size)).trans (hU'.mono (hV.trans (hU.mono hV.size)).size))) (q'.on ((hV.trans (hU.mono hV.size)).trans (hU'.mono (hV.trans (hU.mono hV.size)).size)))
      · have e := kk U' (hU.trans (hU'.mono hU.size))
        exact frac_Sum1 (SV P Q (s + 1)) (SF P Q) cR1 n a d A D ca cd g 6 1 U' hS e.lt (e.cell 6 rfl) (e.cell 7 rfl) (e.cell 8 rfl) (h.on ((hV.trans (hU.mono hV.size)).trans (hU'.mono (hV.trans (hU.mono hV.size)).size))) (h'.on ((hV.trans (hU.mono hV.size)).trans (hU'.mono (hV.trans (hU.mono hV.size)).size)))
  have c13 := fun (V : World) (hV : Below W.heap.size W V) => (rv_Add P' P Q' Q (s + 1) hQ' hQ (by omega) n' n a' d' a d A' D' A D ca' cd' ca cd V hT hS (q.on hV) (q'.on hV) (h.on hV) (h'.on hV)).mono fun _ _ => Gv.imp fun _ _ _ _ _ => SF.toG bS' bQQ'
  have c14 : ∀ (V : World) (hV : Below W.heap.size W V) (n2 : Bool) (a2 d2 : List Nat) (X2 Y2 : Option Addr) (c2 e2 : Nat), SG (P' * (Q : Int) + P * (Q' : Int)) (Q' * Q) (s + 1) n2 a2 c2 d2 e2 → Rd V (fun g => g < V.heap.size) .u32 X2 a2 → Rd V (fun g => g < V.heap.size) .u32 Y2 d2 → Calls Tryz.prog 10 #[.agg #[.bool n, .slice A a.length ca, .slice D d.length cd], .agg #[.bool n2, .slice X2 a2.length c2, .slice Y2 d2.length e2]] V (Gv (SG (P * ((Q' * Q : Nat) : Int) + (P' * (Q : Int) + P * (Q' : Int)) * (Q : Int)) (Q * (Q' * Q)) (s + 1 + s + 1)) V) := fun V hV n2 a2 d2 X2 Y2 c2 e2 hh r r' =>
    (rv_Add P (P' * (Q : Int) + P * (Q' : Int)) Q (Q' * Q) (s + 1) hQ (Nat.mul_pos hQ' hQ) (by omega) n n2 a d a2 d2 A D X2 Y2 ca cd c2 e2 V hS (hh.toV (Nat.mul_pos hQ' hQ)) (h.on hV) (h'.on hV) r r').mono fun _ _ => Gv.imp fun _ _ _ _ _ => SF.toG bT bTQ
  have b0s : (0 : Int).natAbs < 4294967296 ^ (s + 1) := Nat.lt_of_le_of_lt (Nat.zero_le _) b1s
  have c15 := fun (V : World) => (frac_Sum0 V).mono fun _ _ => Gv.imp fun _ _ _ _ _ => SF.toG (m := s + 1) b0s b1s
  have c16 := fun (V : World) => (ref4_Int 0 (by omega) (by omega) V).mono fun _ _ hh => (gv_of_f hh).imp fun _ _ _ _ _ => SF.toG (m := s + 1) b0s b1s
  have c17 := fun (V : World) (hV : Below W.heap.size W V) => law4_lives V (tab V hV)
  have es : s + 1 + s + 1 ≤ 2097154 := by omega
  have es2 : s + 1 ≤ 1048577 := by omega
  have C1 := Lib.hid c1
  have C2 := Lib.hid c2
  have C3 := Lib.hid c3
  have C4 := Lib.hid c4
  have C5 := Lib.hid c5
  have C6 := Lib.hid c6
  have C7 := Lib.hid c7
  have C8 := Lib.hid c8
  have C9 := Lib.hid c9
  have C10 := Lib.hid c10
  have C11 := Lib.hid c11
  have C12 := Lib.hid c12
  have C13 := Lib.hid c13
  have C14 := Lib.hid c14
  have C15 := Lib.hid c15
  have C16 := Lib.hid c16
  have C17 := Lib.hid c17
  have HK1 := Lib.hid k1
  have HK2 := Lib.hid k2
  have HB0 := Lib.hid b0
  have K0 : Below W.heap.size W W.drew := below_drewN (Below.refl _ _) 1
  clear c1 c2 c3 c4 c5 c6 c7 c8 c9 c10 c11 c12 c13 c14 c15 c16 c17 cA1 cA2 cR1 cR2 bS bS' bD bM bPs bPs' bQs bQs' bN bH bT bTQ bQQ bQQ' bP bP' bQ bQ' b0s b1s b2s hS hT h h' q q' hQ hQ' tab hs s0 k1 k2 b0
  go_enter Tryz.func3, Tryz.ntmps3
  go_wp2_with fail
  try rw [hW]
  clear hW
  go_region_held3 (fun w' => (w'.cell? ⟨w.heap.size, 0, none⟩ = some (.bool n) ∧ w'.cell? ⟨w.heap.size, 1, none⟩ = some (.slice A a.length ca) ∧ w'.cell? ⟨w.heap.size, 2, none⟩ = some (.slice D d.length cd)) ∧ (w'.cell? ⟨w.heap.size + 1, 0, none⟩ = some (.bool n') ∧ w'.cell? ⟨w.heap.size + 1, 1, none⟩ = some (.slice A' a'.length ca') ∧ w'.cell? ⟨w.heap.size + 1, 2, none⟩ = some (.slice D' d'.length cd')))
    (first | (with_reducible exact ⟨keep3 HK1.out K0, keep3 HK2.out K0⟩) | (with_reducible exact ⟨keep3 HK1.out K1, keep3 HK2.out K1⟩) | (with_reducible exact ⟨keep3 HK1.out K2, keep3 HK2.out K2⟩) | (with_reducible exact ⟨keep3 HK1.out K3, keep3 HK2.out K3⟩) | (with_reducible exact ⟨keep3 HK1.out K4, keep3 HK2.out K4⟩) | (with_reducible exact ⟨keep3 HK1.out K5, keep3 HK2.out K5⟩) | (with_reducible exact ⟨keep3 HK1.out K6, keep3 HK2.out K6⟩) | (with_reducible exact ⟨keep3 HK1.out K7, keep3 HK2.out K7⟩) | (with_reducible exact ⟨keep3 HK1.out K8, keep3 HK2.out K8⟩) | (with_reducible exact ⟨keep3 HK1.out K9, keep3 HK2.out K9⟩) | (with_reducible exact ⟨keep3 HK1.out K10, keep3 HK2.out K10⟩) | (with_reducible exact ⟨keep3 HK1.out K11, keep3 HK2.out K11⟩) | (with_reducible exact ⟨keep3 HK1.out K12, keep3 HK2.out K12⟩) | (with_reducible exact ⟨keep3 HK1.out K13, keep3 HK2.out K13⟩) | (with_reducible exact ⟨keep3 HK1.out K14, keep3 HK2.out K14⟩) | (with_reducible exact ⟨keep3 HK1.out K15, keep3 HK2.out K15⟩) | (with_reducible exact ⟨keep3 HK1.out K16, keep3 HK2.out K16⟩) | (with_reducible exact ⟨keep3 HK1.out K17, keep3 HK2.out K17⟩) | (with_reducible exact ⟨keep3 HK1.out K18, keep3 HK2.out K18⟩) | (with_reducible exact ⟨keep3 HK1.out K19, keep3 HK2.out K19⟩) | (with_reducible exact ⟨keep3 HK1.out K20, keep3 HK2.out K20⟩) | (with_reducible exact ⟨keep3 HK1.out K21, keep3 HK2.out K21⟩) | (with_reducible exact ⟨keep3 HK1.out K22, keep3 HK2.out K22⟩) | (with_reducible exact ⟨keep3 HK1.out K23, keep3 HK2.out K23⟩) | (with_reducible exact ⟨keep3 HK1.out K24, keep3 HK2.out K24⟩) | (with_reducible exact ⟨keep3 HK1.out (keep_one K16 _), keep3 HK2.out (keep_one K16 _)⟩) | go_keep)
    ((first
      | (go_at_call 9; (with_reducible refine Calls.mono (C1.out _ K0) ?_); rintro e w1 ⟨n1, a1, X1, c1, d1, Y1, e1, rfl, s1, r1, q1, b1⟩; have K1 := below_next K0 (Nat.le_refl _) b1)
      | (go_at_call 10; (with_reducible refine Calls.mono (C2.out _ K1) ?_); rintro e w2 ⟨n2, a2, X2, c2, d2, Y2, e2, rfl, s2, r2, q2, b2⟩; have K2 := below_next K1 (Nat.le_refl _) b2; have l1 := s1.2; obtain ⟨rfl, rfl, rfl⟩ := SG.same s1 s2)
      | (go_at_call_of 8 (Value.slice X1 a1.length c1); (with_reducible refine Calls.mono (ref4_same_true n1 a1 d1 X1 Y1 X2 Y2 c1 e1 c2 e2 _ (r1.on b2) (q1.on b2) r2 q2 (by omega) (by omega)) ?_); rintro e w3 ⟨rfl, b3⟩; have K3 := below_next K2 (Nat.le_refl _) b3)
      | (go_at_call 11; (with_reducible refine Calls.mono (C3.out _ K3) ?_); rintro e w4 ⟨n4, a4, X4, c4, d4, Y4, e4, rfl, s4, r4, q4, b4⟩; have K4 := below_next K3 (Nat.le_refl _) b4)
      | (go_at_call 12; (with_reducible refine Calls.mono (C4.out _ K4) ?_); rintro e w5 ⟨n5, a5, X5, c5, d5, Y5, e5, rfl, s5, r5, q5, b5⟩; have K5 := below_next K4 (Nat.le_refl _) b5; have l4 := s4.2; obtain ⟨rfl, rfl, rfl⟩ := SG.same s4 s5)
      | (go_at_call_of 8 (Value.slice X4 a4.length c4); (with_reducible refine Calls.mono (ref4_same_true n4 a4 d4 X4 Y4 X5 Y5 c4 e4 c5 e5 _ (r4.on b5) (q4.on b5) r5 q5 (by omega) (by omega)) ?_); rintro e w6 ⟨rfl, b6⟩; have K6 := below_next K5 (Nat.le_refl _) b6)
      | (go_at_call 13; (with_reducible refine Calls.mono (C5.out _ K6) ?_); rintro e w7 ⟨n7, a7, X7, c7, d7, Y7, e7, rfl, s7, r7, q7, b7⟩; have K7 := below_next K6 (Nat.le_refl _) b7)
      | (go_at_call 14; (with_reducible refine Calls.mono (C6.out _ K7) ?_); rintro e w8 ⟨n8, a8, X8, c8, d8, Y8, e8, rfl, s8, r8, q8, b8⟩; have K8 := below_next K7 (Nat.le_refl _) b8; have l7 := s7.2; obtain ⟨rfl, rfl, rfl⟩ := SG.same s7 s8)
      | (go_at_call_of 8 (Value.slice X7 a7.length c7); (with_reducible refine Calls.mono (ref4_same_true n7 a7 d7 X7 Y7 X8 Y8 c7 e7 c8 e8 _ (r7.on b8) (q7.on b8) r8 q8 (by omega) (by omega)) ?_); rintro e w9 ⟨rfl, b9⟩; have K9 := below_next K8 (Nat.le_refl _) b9)
      | (go_at_call 15; (with_reducible refine Calls.mono (C7.out _ K9) ?_); rintro e w10 ⟨n10, a10, X10, c10, d10, Y10, e10, rfl, s10, r10, q10, b10⟩; have K10 := below_next K9 (Nat.le_refl _) b10)
      | (go_at_call 16; (with_reducible refine Calls.mono (C8.out _ K10) ?_); rintro e w11 ⟨n11, a11, X11, c11, d11, Y11, e11, rfl, s11, r11, q11, b11⟩; have K11 := below_next K10 (Nat.le_refl _) b11; have l10 := s10.2; obtain ⟨rfl, rfl, rfl⟩ := SG.same s10 s11)
      | (go_at_call_of 8 (Value.slice X10 a10.length c10); (with_reducible refine Calls.mono (ref4_same_true n10 a10 d10 X10 Y10 X11 Y11 c10 e10 c11 e11 _ (r10.on b11) (q10.on b11) r11 q11 (by omega) (by omega)) ?_); rintro e w12 ⟨rfl, b12⟩; have K12 := below_next K11 (Nat.le_refl _) b12)
      | (go_at_call 17; (with_reducible refine Calls.mono (C9.out _ K12) ?_); rintro e w13 ⟨n13, a13, X13, c13, d13, Y13, e13, rfl, s13, r13, q13, b13⟩; have K13 := below_next K12 (Nat.le_refl _) b13)
      | (go_at_call 18; (with_reducible refine Calls.mono (C10.out _) ?_); rintro e w14 ⟨n14, a14, X14, c14, d14, Y14, e14, rfl, s14, r14, q14, b14⟩; have K14 := below_next K13 (Nat.le_refl _) b14)
      | (go_at_call_of 14 (Value.slice X14 a14.length c14); (with_reducible refine Calls.mono (C11.out _ K14 n14 a14 d14 X14 Y14 c14 e14 s14 r14 q14) ?_); rintro e w15 ⟨n15, a15, X15, c15, d15, Y15, e15, rfl, s15, r15, q15, b15⟩; have K15 := below_next K14 (Nat.le_refl _) b15; have l13 := s13.2; obtain ⟨rfl, rfl, rfl⟩ := SG.same s13 s15)
      | (go_at_call_of 8 (Value.slice X13 a13.length c13); (with_reducible refine Calls.mono (ref4_same_true n13 a13 d13 X13 Y13 X15 Y15 c13 e13 c15 e15 _ ((r13.on b14).on b15) ((q13.on b14).on b15) r15 q15 (by omega) (by omega)) ?_); rintro e w16 ⟨rfl, b16⟩; have K16 := below_next K15 (Nat.le_refl _) b16)
      | (go_at_call 19; (with_reducible refine Calls.mono (C12.out _ _ ?_ ?_) ?_) <;> first | exact keep_one K16 _ | exact Blk.new w16 _ _ | (rintro e w17 ⟨n17, a17, X17, c17, d17, Y17, e17, rfl, s17, r17, q17, b17⟩; have K17 := below_next (keep_one K16 _) (Nat.le_refl _) b17))
      | (go_at_call_of 10 (Value.slice A' a'.length ca'); (with_reducible refine Calls.mono (C13.out _ K17) ?_); rintro e w18 ⟨n18, a18, X18, c18, d18, Y18, e18, rfl, s18, r18, q18, b18⟩; have K18 := below_next K17 (Nat.le_refl _) b18)
      | (go_at_call_of 10 (Value.slice X18 a18.length c18); (with_reducible refine Calls.mono (C14.out _ K18 n18 a18 d18 X18 Y18 c18 e18 s18 r18 q18) ?_); rintro e w19 ⟨n19, a19, X19, c19, d19, Y19, e19, rfl, s19, r19, q19, b19⟩; have K19 := below_next K18 (Nat.le_refl _) b19; have l17 := s17.2; obtain ⟨rfl, rfl, rfl⟩ := SG.same s17 s19)
      | (go_at_call_of 8 (Value.slice X17 a17.length c17); (with_reducible refine Calls.mono (ref4_same_true n17 a17 d17 X17 Y17 X19 Y19 c17 e17 c19 e19 _ ((r17.on b18).on b19) ((q17.on b18).on b19) r19 q19 (by omega) (by omega)) ?_); rintro e w20 ⟨rfl, b20⟩; have K20 := below_next K19 (Nat.le_refl _) b20)
      | (go_at_call 19; (with_reducible refine Calls.mono (C15.out _) ?_); rintro e w21 ⟨n21, a21, X21, c21, d21, Y21, e21, rfl, s21, r21, q21, b21⟩; have K21 := below_next K20 (Nat.le_refl _) b21)
      | (go_at_call 20; (with_reducible refine Calls.mono (C16.out _) ?_); rintro e w22 ⟨n22, a22, X22, c22, d22, Y22, e22, rfl, s22, r22, q22, b22⟩; have K22 := below_next K21 (Nat.le_refl _) b22; have l21 := s21.2; obtain ⟨rfl, rfl, rfl⟩ := SG.same s21 s22)
      | (go_at_call_of 8 (Value.slice X21 a21.length c21); (with_reducible refine Calls.mono (ref4_same_true n21 a21 d21 X21 Y21 X22 Y22 c21 e21 c22 e22 _ (r21.on b22) (q21.on b22) r22 q22 (by omega) (by omega)) ?_); rintro e w23 ⟨rfl, b23⟩; have K23 := below_next K22 (Nat.le_refl _) b23)
      | (go_at_call 21; (with_reducible refine Calls.mono (C17.out _ K23) ?_); rintro e w24 ⟨rfl, b24⟩; have K24 := below_next K23 (Nat.le_refl _) b24)))
  go_wp2_with fail
  go_ret
  exact ⟨rfl, HB0.out.trans (K24.mono HB0.out.size)⟩
end Go.Proofs.YtidbpkibjficnaaGreatDoor
