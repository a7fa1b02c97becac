/- Fractions, the document's own: what worth, up and Reduce answer. -/
import Derived.Test.YtngnclibeccplaaDoorZWrX
import Derived.Test.YtngnclibeccplaaDoorZRrX
import Derived.Test.YtngnclibeccplaaDoorZWrY
import Derived.Deep.RegionWith
import Derived.Test.YtngnclibeccplaaDoorZOaC
import Derived.Test.YtngnclibeccplaaDoorZOaD
import Derived.Test.YtngnclibeccplaaDoorZWhX
import Derived.Deep.RegionHeld3
namespace Go.Proofs.YtngnclibeccplaaDoor
open Go.RowKit Num

/-- three cells stored into a block -/
theorem Blk.three {w : World} {g : Nat} {t : TypeId} {a0 a1 a2 : Value} (h : Blk w g t [a0, a1, a2]) (u0 u1 u2 : Value) :
    ∃ W, ((w.setCell ⟨g, 0, none⟩ u0).setCell ⟨g, 1, none⟩ u1).setCell ⟨g, 2, none⟩ u2 = W ∧ W.cell? ⟨g, 0, none⟩ = some u0 ∧ W.cell? ⟨g, 1, none⟩ = some u1 ∧ W.cell? ⟨g, 2, none⟩ = some u2 ∧ Blk W g t [u0, u1, u2] ∧ (∀ B, B ≤ g → Below B w W) ∧ (∀ g' t' vs, g' ≠ g → Blk w g' t' vs → Blk W g' t' vs) ∧ W.heap.size = w.heap.size := by
  have k := ((h.set 0 u0).set 1 u1).set 2 u2
  exact ⟨_, rfl, k.cell 0 rfl, k.cell 1 rfl, k.cell 2 rfl, k, fun _ hB => (((Below.refl _ _).setCell hB _).setCell hB _).setCell hB _, fun _ _ _ hne k => ((k.far hne u0).far hne u1).far hne u2, by simp [World.setCell]⟩
/-- words that are read stay when another block's cells are stored, one that holds no integers there -/
theorem Num.Rd.far3 {w : World} {g : Nat} {t : TypeId} {x : Bool} {p q : Option Addr} {n m n' m' : Nat} {k : IntKind} {A : Option Addr} {xs : List Nat} (h : Rd w (fun g => g < w.heap.size) k A xs) (f : Blk w g t [.bool x, .slice p n m, .slice q n' m']) {W : World} (u0 u1 u2 : Value) (hW : ((w.setCell ⟨g, 0, none⟩ u0).setCell ⟨g, 1, none⟩ u1).setCell ⟨g, 2, none⟩ u2 = W) : Rd W (fun g => g < W.heap.size) k A xs := fun hn => by
  obtain ⟨b, o, e, hb, hc⟩ := h hn
  have hne : b ≠ g := by
    rintro rfl
    have h0 := hc 0 hn
    rw [cell_of_row _ _ _ _ _ _ f] at h0
    match o, h0 with
    | 0, h0 => simp at h0
    | 1, h0 => simp at h0
    | 2, h0 => simp at h0
    | o + 3, h0 => simp at h0
  subst hW
  refine ⟨b, o, e, by simpa [World.setCell] using hb, fun j hj => ?_⟩
  rw [← hc j hj]
  exact World.cell?_of_block (((Below.heap_setCell _ _ u2 b hne).trans (Below.heap_setCell _ _ u1 b hne)).trans (Below.heap_setCell _ _ u0 b hne))
/-- an argument's box and the result's one -/
theorem frac_boxes (w : World) (v0 v1 v2 : Value) : ∃ W, (w.alloc (.cells #[v0, v1, v2] 74)).alloc (.cells #[.bool false, .slice none 0 0, .slice none 0 0] 74) = W ∧ Blk W w.heap.size 74 [v0, v1, v2] ∧ Blk W (w.heap.size + 1) 74 [.bool false, .slice none 0 0, .slice none 0 0] ∧ Below w.heap.size w W ∧ W.heap.size = w.heap.size + 2 :=
  ⟨_, rfl, (Blk.new w 74 [v0, v1, v2]).alloc _, Blk.at_new (w.alloc (.cells #[v0, v1, v2] 74)) 74 [.bool false, .slice none 0 0, .slice none 0 0] (by simp), (below_one w _).trans ((below_one (w.alloc (.cells #[v0, v1, v2] 74)) _).mono (by simp)), by simp⟩
/-- a cell's facts of three -/
theorem Blk.facts {w : World} {g : Nat} {t : TypeId} {a0 a1 a2 : Value} (h : Blk w g t [a0, a1, a2]) : w.cell? ⟨g, 0, none⟩ = some a0 ∧ w.cell? ⟨g, 1, none⟩ = some a1 ∧ w.cell? ⟨g, 2, none⟩ = some a2 ∧ w.frozen? ⟨g, 0, none⟩ = false ∧ w.frozen? ⟨g, 1, none⟩ = false ∧ w.frozen? ⟨g, 2, none⟩ = false :=
  ⟨h.cell 0 rfl, h.cell 1 rfl, h.cell 2 rfl, h.frozen 0, h.frozen 1, h.frozen 2⟩

/-- a fraction, not reduced -/
def GivesRaw (P : Int) (Q m : Nat) (w : World) (e : Ending) (w' : World) : Prop :=
  ∃ n a A ca d D cd, e = .returned (.agg #[.bool n, .slice A a.length ca, .slice D d.length cd]) ∧ Dg 4294967296 a ∧ Dg 4294967296 d ∧ a.length ≤ m ∧ d.length ≤ m ∧ wv n a = P ∧ val 4294967296 d = Q ∧ Rd w' (fun g => g < w'.heap.size) .u32 A a ∧ Rd w' (fun g => g < w'.heap.size) .u32 D d ∧ Below w.heap.size w w'
/-- what a fraction is worth: its upper and its lower part -/
def upN (n : Bool) (a d : List Nat) : Int := if val 4294967296 d = 0 then 0 else wv n a
def loD (d : List Nat) : Nat := if val 4294967296 d = 0 then 1 else val 4294967296 d

/-- a fraction, reduced -/
def GivesF (P : Int) (Q : Nat) (w : World) (e : Ending) (w' : World) : Prop :=
  ∃ A a ca D d cd, e = .returned (.agg #[.bool (decide (P < 0)), .slice A a.length ca, .slice D d.length cd]) ∧ a.length ≤ ca ∧ d.length ≤ cd ∧ Norm 4294967296 a ∧ Norm 4294967296 d ∧ val 4294967296 a = P.natAbs / Nat.gcd P.natAbs Q ∧ val 4294967296 d = Q / Nat.gcd P.natAbs Q ∧
    Rd w' (fun g => g < w'.heap.size) .u32 A a ∧ Rd w' (fun g => g < w'.heap.size) .u32 D d ∧ Below w.heap.size w w'
theorem nought {Q : Nat} (hQ : 0 < Q) : val 4294967296 [] = (0 : Int).natAbs / Nat.gcd (0 : Int).natAbs Q ∧ val 4294967296 [1] = Q / Nat.gcd (0 : Int).natAbs Q := by
  simp only [Int.natAbs_zero, Nat.gcd_zero_left, Nat.zero_div]
  exact ⟨rfl, by rw [Nat.div_self hQ]; rfl⟩
theorem reduced_sign {n : Bool} {a x : List Nat} {g : Nat} (h : val 4294967296 x = val 4294967296 a / g) (hg : g ∣ val 4294967296 a) (ha : 0 < val 4294967296 a) : decide (wv n x < 0) = decide (wv n a < 0) := by
  have hx : 0 < val 4294967296 x := by
    rw [h]
    exact Nat.div_pos (Nat.le_of_dvd ha hg) (Nat.pos_of_dvd_of_pos hg ha)
  cases n
  · rw [wv_false, wv_false, decide_eq_false (by omega), decide_eq_false (by omega)]
  · rw [wv_true, wv_true, decide_eq_true (by omega), decide_eq_true (by omega)]

end Go.Proofs.YtngnclibeccplaaDoor
/- Fractions, the document's own: what up, Neg, Sign and Floor answer. -/

namespace Go.Proofs.YtngnclibeccplaaDoor
open Go.RowKit Num

theorem loD_pos (d : List Nat) : 0 < loD d := by
  unfold loD
  split <;> omega
theorem upN_of {n : Bool} {a d : List Nat} (h : 0 < val 4294967296 d) : upN n a d = wv n a := by unfold upN; rw [if_neg (by omega)]
theorem loD_of {d : List Nat} (h : 0 < val 4294967296 d) : loD d = val 4294967296 d := by unfold loD; rw [if_neg (by omega)]

/-- a reduced fraction stored where the result lies -/
theorem fin_frac {w v : World} {g : Nat} {t : TypeId} (k : Blk v g t [.bool false, .slice none 0 0, .slice none 0 0]) (hg : w.heap.size ≤ g) (B : Below w.heap.size w v) {P : Int} {Q : Nat} {A D : Option Addr} {a d : List Nat} {ca cd : Nat}
    (hc : a.length ≤ ca) (hd : d.length ≤ cd) (hn : Norm 4294967296 a) (hm : Norm 4294967296 d) (hv : val 4294967296 a = P.natAbs / Nat.gcd P.natAbs Q) (hu : val 4294967296 d = Q / Nat.gcd P.natAbs Q) (r : Rd v (fun g => g < v.heap.size) .u32 A a) (q : Rd v (fun g => g < v.heap.size) .u32 D d) :
    ∃ U, ((v.setCell ⟨g, 0, none⟩ (.bool (decide (P < 0)))).setCell ⟨g, 1, none⟩ (.slice A a.length ca)).setCell ⟨g, 2, none⟩ (.slice D d.length cd) = U ∧ U.cell? ⟨g, 0, none⟩ = some (.bool (decide (P < 0))) ∧ U.cell? ⟨g, 1, none⟩ = some (.slice A a.length ca) ∧ U.cell? ⟨g, 2, none⟩ = some (.slice D d.length cd) ∧
      GivesF P Q w (.returned (.agg #[.bool (decide (P < 0)), .slice A a.length ca, .slice D d.length cd])) U := by
  obtain ⟨U, hU, u0, u1, u2, -, bU, -, -⟩ := k.three (.bool (decide (P < 0))) (.slice A a.length ca) (.slice D d.length cd)
  exact ⟨U, hU, u0, u1, u2, A, a, ca, D, d, cd, rfl, hc, hd, hn, hm, hv, hu, r.far3 k _ _ _ hU, q.far3 k _ _ _ hU, B.trans (bU _ hg)⟩
theorem keep3 {W V : World} {g : Nat} {t : TypeId} {a0 a1 a2 : Value} (k : Blk W g t [a0, a1, a2]) (hb : Below W.heap.size W V) : V.cell? ⟨g, 0, none⟩ = some a0 ∧ V.cell? ⟨g, 1, none⟩ = some a1 ∧ V.cell? ⟨g, 2, none⟩ = some a2 := by
  have k' := k.below hb k.lt
  exact ⟨k'.cell 0 rfl, k'.cell 1 rfl, k'.cell 2 rfl⟩

end Go.Proofs.YtngnclibeccplaaDoor
/- Fractions, the document's own: what Sign and Floor answer. -/

namespace Go.Proofs.YtngnclibeccplaaDoor
open Go.RowKit Num

/-- an argument's box alone -/
theorem frac_box (w : World) (v0 v1 v2 : Value) : ∃ W, w.alloc (.cells #[v0, v1, v2] 74) = W ∧ Blk W w.heap.size 74 [v0, v1, v2] ∧ Below w.heap.size w W ∧ W.heap.size = w.heap.size + 1 :=
  ⟨_, rfl, Blk.new w 74 [v0, v1, v2], below_one w _, by simp⟩
/-- an argument's box, and that of a result that is a whole number -/
theorem frac_boxw (w : World) (v0 v1 v2 : Value) : ∃ W, (w.alloc (.cells #[v0, v1, v2] 74)).alloc (.cells #[.bool false, .slice none 0 0] 72) = W ∧ Blk W w.heap.size 74 [v0, v1, v2] ∧ Blk W (w.heap.size + 1) 72 [.bool false, .slice none 0 0] ∧ Below w.heap.size w W ∧ W.heap.size = w.heap.size + 2 :=
  ⟨_, rfl, (Blk.new w 74 [v0, v1, v2]).alloc _, Blk.at_new (w.alloc (.cells #[v0, v1, v2] 74)) 72 [.bool false, .slice none 0 0] (by simp), (below_one w _).trans ((below_one (w.alloc (.cells #[v0, v1, v2] 74)) _).mono (by simp)), by simp⟩

theorem keep_one {U V : World} (K : Below U.heap.size U V) (o : Obj) : Below U.heap.size U (V.alloc o) := Below.alloc K K.size o
theorem keep_two {U V : World} (K : Below U.heap.size U V) (o p : Obj) : Below U.heap.size U ((V.alloc o).alloc p) := keep_one (keep_one K o) p
/-- the upper part of a fraction that lies in no memory -/
theorem run_field_num (v0 v1 v2 : Value) (w : World) : (Instr.field 74 (.agg #[v0, v1, v2]) 0).run Tryd.prog w = .ok (.agg #[v0, v1]) w := by
  simp [go_sem, Instr.field, asAgg]

end Go.Proofs.YtngnclibeccplaaDoor
/- Fractions, the document's own: what Mul and Add answer. -/

namespace Go.Proofs.YtngnclibeccplaaDoor
open Go.RowKit Num

/-- two arguments' boxes and the result's one -/
theorem frac_boxes2 (w : World) (v0 v1 v2 u0 u1 u2 : Value) : ∃ W, ((w.alloc (.cells #[v0, v1, v2] 74)).alloc (.cells #[u0, u1, u2] 74)).alloc (.cells #[.bool false, .slice none 0 0, .slice none 0 0] 74) = W ∧ Blk W w.heap.size 74 [v0, v1, v2] ∧ Blk W (w.heap.size + 1) 74 [u0, u1, u2] ∧ Blk W (w.heap.size + 1 + 1) 74 [.bool false, .slice none 0 0, .slice none 0 0] ∧ Below w.heap.size w W ∧ W.heap.size = w.heap.size + 3 :=
  ⟨_, rfl, ((Blk.new w 74 [v0, v1, v2]).alloc _).alloc _, (Blk.at_new (w.alloc (.cells #[v0, v1, v2] 74)) 74 [u0, u1, u2] (by simp)).alloc _, Blk.at_new ((w.alloc (.cells #[v0, v1, v2] 74)).alloc (.cells #[u0, u1, u2] 74)) 74 [.bool false, .slice none 0 0, .slice none 0 0] (by simp),
    (((below_one w _).alloc (by simp) _).alloc (by simp; omega) _), by simp⟩

theorem far_cells {v : World} {g g' : Nat} {t : TypeId} {a0 a1 a2 : Value} (k : Blk v g t [a0, a1, a2]) (hne : g ≠ g') (u0 u1 u2 : Value) :
    (((v.setCell ⟨g', 0, none⟩ u0).setCell ⟨g', 1, none⟩ u1).setCell ⟨g', 2, none⟩ u2).cell? ⟨g, 0, none⟩ = some a0 ∧ (((v.setCell ⟨g', 0, none⟩ u0).setCell ⟨g', 1, none⟩ u1).setCell ⟨g', 2, none⟩ u2).cell? ⟨g, 1, none⟩ = some a1 ∧ (((v.setCell ⟨g', 0, none⟩ u0).setCell ⟨g', 1, none⟩ u1).setCell ⟨g', 2, none⟩ u2).cell? ⟨g, 2, none⟩ = some a2 := by
  have k' := ((k.far (p := ⟨g', 0, none⟩) hne u0).far (p := ⟨g', 1, none⟩) hne u1).far (p := ⟨g', 2, none⟩) hne u2
  exact ⟨k'.cell 0 rfl, k'.cell 1 rfl, k'.cell 2 rfl⟩
/-- two fractions in their boxes, whose lower parts aren't 0 -/
def Worthed (w wc : World) (m : Nat) (P1 : Int) (Q1 : Nat) (P2 : Int) (Q2 : Nat) : Prop :=
  ∃ n1 a1 A1 c1 d1 D1 e1 n2 a2 A2 c2 d2 D2 e2, Blk wc w.heap.size 74 [.bool n1, .slice A1 a1.length c1, .slice D1 d1.length e1] ∧ Blk wc (w.heap.size + 1) 74 [.bool n2, .slice A2 a2.length c2, .slice D2 d2.length e2] ∧
    Dg 4294967296 a1 ∧ Dg 4294967296 d1 ∧ Dg 4294967296 a2 ∧ Dg 4294967296 d2 ∧ a1.length ≤ m ∧ d1.length ≤ m ∧ a2.length ≤ m ∧ d2.length ≤ m ∧ wv n1 a1 = P1 ∧ val 4294967296 d1 = Q1 ∧ wv n2 a2 = P2 ∧ val 4294967296 d2 = Q2 ∧
    Rd wc (fun g => g < wc.heap.size) .u32 A1 a1 ∧ Rd wc (fun g => g < wc.heap.size) .u32 D1 d1 ∧ Rd wc (fun g => g < wc.heap.size) .u32 A2 a2 ∧ Rd wc (fun g => g < wc.heap.size) .u32 D2 d2 ∧ Below w.heap.size w wc
theorem worthed {w v : World} {m : Nat} {P1 P2 : Int} {Q1 Q2 : Nat} {n n' : Bool} {B B' C C' : Option Addr} {i i' j j' k k' l l' : Nat} (k1 : Blk v w.heap.size 74 [.bool n, .slice B i j, .slice B' i' j']) (k2 : Blk v (w.heap.size + 1) 74 [.bool n', .slice C k l, .slice C' k' l']) (bb : Below w.heap.size w v)
    {n1 : Bool} {a1 : List Nat} {A1 : Option Addr} {c1 : Nat} {d1 : List Nat} {D1 : Option Addr} {e1 : Nat} {n2 : Bool} {a2 : List Nat} {A2 : Option Addr} {c2 : Nat} {d2 : List Nat} {D2 : Option Addr} {e2 : Nat}
    (g1 : Dg 4294967296 a1) (g2 : Dg 4294967296 d1) (g3 : Dg 4294967296 a2) (g4 : Dg 4294967296 d2) (l1 : a1.length ≤ m) (l2 : d1.length ≤ m) (l3 : a2.length ≤ m) (l4 : d2.length ≤ m) (v1 : wv n1 a1 = P1) (v2 : val 4294967296 d1 = Q1) (v3 : wv n2 a2 = P2) (v4 : val 4294967296 d2 = Q2)
    (r1 : Rd v (fun g => g < v.heap.size) .u32 A1 a1) (r2 : Rd v (fun g => g < v.heap.size) .u32 D1 d1) (r3 : Rd v (fun g => g < v.heap.size) .u32 A2 a2) (r4 : Rd v (fun g => g < v.heap.size) .u32 D2 d2) :
    Worthed w ((((((v.setCell ⟨w.heap.size, 0, none⟩ (.bool n1)).setCell ⟨w.heap.size, 1, none⟩ (.slice A1 a1.length c1)).setCell ⟨w.heap.size, 2, none⟩ (.slice D1 d1.length e1)).setCell ⟨w.heap.size + 1, 0, none⟩ (.bool n2)).setCell ⟨w.heap.size + 1, 1, none⟩ (.slice A2 a2.length c2)).setCell ⟨w.heap.size + 1, 2, none⟩ (.slice D2 d2.length e2)) m P1 Q1 P2 Q2 ∧
      (∀ g t vs, g ≠ w.heap.size → g ≠ w.heap.size + 1 → Blk v g t vs → Blk ((((((v.setCell ⟨w.heap.size, 0, none⟩ (.bool n1)).setCell ⟨w.heap.size, 1, none⟩ (.slice A1 a1.length c1)).setCell ⟨w.heap.size, 2, none⟩ (.slice D1 d1.length e1)).setCell ⟨w.heap.size + 1, 0, none⟩ (.bool n2)).setCell ⟨w.heap.size + 1, 1, none⟩ (.slice A2 a2.length c2)).setCell ⟨w.heap.size + 1, 2, none⟩ (.slice D2 d2.length e2)) g t vs) := by
  obtain ⟨U, hU, -, -, -, kU, bU, oU, sU⟩ := k1.three (.bool n1) (.slice A1 a1.length c1) (.slice D1 d1.length e1)
  have k2' := oU _ _ _ (by omega) k2
  have x1 := r1.far3 k1 _ _ _ hU
  have x2 := r2.far3 k1 _ _ _ hU
  have x3 := r3.far3 k1 _ _ _ hU
  have x4 := r4.far3 k1 _ _ _ hU
  rw [hU]
  obtain ⟨Z, hZ, -, -, -, kZ, bZ, oZ, sZ⟩ := k2'.three (.bool n2) (.slice A2 a2.length c2) (.slice D2 d2.length e2)
  rw [hZ]
  exact ⟨⟨n1, a1, A1, c1, d1, D1, e1, n2, a2, A2, c2, d2, D2, e2, oZ _ _ _ (by omega) kU, kZ, g1, g2, g3, g4, l1, l2, l3, l4, v1, v2, v3, v4, x1.far3 k2' _ _ _ hZ, x2.far3 k2' _ _ _ hZ, x3.far3 k2' _ _ _ hZ, x4.far3 k2' _ _ _ hZ, (bb.trans (bU _ (Nat.le_refl _))).trans (bZ _ (by omega))⟩,
    fun g t vs h1 h2 k => oZ _ _ _ h2 (oU _ _ _ h1 k)⟩

end Go.Proofs.YtngnclibeccplaaDoor
/- Fractions, the document's own: what Add answers. -/

namespace Go.Proofs.YtngnclibeccplaaDoor
open Go.RowKit Num

end Go.Proofs.YtngnclibeccplaaDoor
/- Fractions, the document's own: what Sub, Int and Half answer. -/

namespace Go.Proofs.YtngnclibeccplaaDoor
open Go.RowKit Num

theorem GivesF.scale {P : Int} {Q k : Nat} {w w' : World} {e : Ending} (hk : 0 < k) (h : GivesF P Q w e w') : GivesF (P * (k : Int)) (Q * k) w e w' := by
  obtain ⟨A, a, ca, D, d, cd, he, h1, h2, h3, h4, h5, h6, h7⟩ := h
  have hn : (P * (k : Int)).natAbs = P.natAbs * k := by rw [Int.natAbs_mul, Int.natAbs_natCast]
  have hg : Nat.gcd (P.natAbs * k) (Q * k) = Nat.gcd P.natAbs Q * k := Nat.gcd_mul_right _ _ _
  have hs : decide (P * (k : Int) < 0) = decide (P < 0) := by
    rcases Int.lt_or_le P 0 with hp | hp
    · rw [decide_eq_true hp, decide_eq_true (Int.mul_neg_of_neg_of_pos hp (by omega))]
    · have := Int.mul_nonneg hp (show (0 : Int) ≤ (k : Int) by omega)
      rw [decide_eq_false (by omega), decide_eq_false (by omega)]
  refine ⟨A, a, ca, D, d, cd, by rw [hs]; exact he, h1, h2, h3, h4, ?_, ?_, h7⟩
  · rw [hn, hg, Nat.mul_div_mul_right _ _ hk]; exact h5
  · rw [hn, hg, Nat.mul_div_mul_right _ _ hk]; exact h6
/-- what a reduced fraction's parts are worth -/
theorem reduced_parts {P : Int} {Q : Nat} (hQ : 0 < Q) {a d : List Nat} (hv : val 4294967296 a = P.natAbs / Nat.gcd P.natAbs Q) (hu : val 4294967296 d = Q / Nat.gcd P.natAbs Q) :
    0 < Nat.gcd P.natAbs Q ∧ upN (decide (P < 0)) a d * (Nat.gcd P.natAbs Q : Int) = P ∧ loD d * Nat.gcd P.natAbs Q = Q := by
  have hg : 0 < Nat.gcd P.natAbs Q := Nat.gcd_pos_of_pos_right _ hQ
  have e1 : P.natAbs / Nat.gcd P.natAbs Q * Nat.gcd P.natAbs Q = P.natAbs := Nat.div_mul_cancel (Nat.gcd_dvd_left _ _)
  have e2 : Q / Nat.gcd P.natAbs Q * Nat.gcd P.natAbs Q = Q := Nat.div_mul_cancel (Nat.gcd_dvd_right _ _)
  have hd : 0 < val 4294967296 d := by
    rw [hu]
    rcases Nat.eq_zero_or_pos (Q / Nat.gcd P.natAbs Q) with h | h
    · rw [h] at e2; omega
    · exact h
  rw [← hv] at e1
  rw [← hu] at e2
  refine ⟨hg, ?_, by rw [loD_of hd]; exact e2⟩
  rw [upN_of hd]
  generalize Nat.gcd P.natAbs Q = g at *
  have e3 : (val 4294967296 a : Int) * (g : Int) = (P.natAbs : Int) := by rw [← Int.natCast_mul, e1]
  rcases Int.lt_or_le P 0 with hp | hp
  · rw [decide_eq_true hp, wv_true, Int.neg_mul, e3]; omega
  · rw [decide_eq_false (by omega), wv_false, e3]; omega

theorem up_abs (n : Bool) (a d : List Nat) : (upN n a d).natAbs ≤ val 4294967296 a := by
  unfold upN
  split
  · simp
  · rw [wv_abs]; exact Nat.le_refl _
/-- how long a reduced fraction's parts are -/
theorem reduced_len {n : Bool} {a d x y : List Nat} {m : Nat} (hx : Norm 4294967296 x) (hy : Norm 4294967296 y) (ha : Dg 4294967296 a) (hd : Dg 4294967296 d) (hl : a.length ≤ m) (hl' : d.length ≤ m) (hm : 1 ≤ m) {P : Int} {g : Nat} (hP : P.natAbs = (upN n a d).natAbs) (hv : val 4294967296 x = P.natAbs / g) (hu : val 4294967296 y = loD d / g) : x.length ≤ m ∧ y.length ≤ m := by
  constructor
  · exact Nat.le_trans (len_le (by omega) hx.2 ha (by rw [hv, hP]; exact Nat.le_trans (Nat.div_le_self _ _) (up_abs n a d))) hl
  · have h1 : val 4294967296 y ≤ loD d := by rw [hu]; exact Nat.div_le_self _ _
    rcases Nat.eq_zero_or_pos (val 4294967296 d) with h | h
    · have : loD d = 1 := by unfold loD; rw [if_pos h]
      exact Nat.le_trans (len_le (a := [1]) (by omega) hy.2 (dg_one (by omega)) (by rw [this] at h1; exact h1)) hm
    · rw [loD_of h] at h1
      exact Nat.le_trans (len_le (by omega) hy.2 hd h1) hl'

end Go.Proofs.YtngnclibeccplaaDoor
/- Fractions, the program's own: shapes of what is handed in and out, and their arithmetic. -/

namespace Go.Proofs.YtngnclibeccplaaDoor
open Go.RowKit Num

/-- what may be said of a fraction's sign, words and room -/
abbrev Shape := Bool → List Nat → Nat → List Nat → Nat → Prop
/-- a fraction of a shape is handed back -/
def Gv (S : Shape) (w : World) (e : Ending) (w' : World) : Prop :=
  ∃ n a A ca d D cd, e = .returned (.agg #[.bool n, .slice A a.length ca, .slice D d.length cd]) ∧ S n a ca d cd ∧ Rd w' (fun g => g < w'.heap.size) .u32 A a ∧ Rd w' (fun g => g < w'.heap.size) .u32 D d ∧ Below w.heap.size w w'
/-- handed in: P by Q, of at most m words each -/
def SI (P : Int) (Q m : Nat) : Shape := fun n a ca d cd => a.length ≤ ca ∧ d.length ≤ cd ∧ Dg 4294967296 a ∧ Dg 4294967296 d ∧ a.length ≤ m ∧ d.length ≤ m ∧ upN n a d = P ∧ loD d = Q
/-- P by Q just so -/
def SH (P : Int) (Q m : Nat) : Shape := fun n a ca d cd => a.length ≤ ca ∧ d.length ≤ cd ∧ Dg 4294967296 a ∧ Dg 4294967296 d ∧ a.length ≤ m ∧ d.length ≤ m ∧ wv n a = P ∧ val 4294967296 d = Q
/-- what is worth P by Q -/
def SR (P : Int) (Q m : Nat) : Shape := fun n a ca d cd => a.length ≤ ca ∧ d.length ≤ cd ∧ Dg 4294967296 a ∧ Dg 4294967296 d ∧ a.length ≤ m ∧ d.length ≤ m ∧ 0 < val 4294967296 d ∧ wv n a * (Q : Int) = P * (val 4294967296 d : Int)
/-- P by Q, reduced -/
def SF (P : Int) (Q : Nat) : Shape := fun n a ca d cd => n = decide (P < 0) ∧ a.length ≤ ca ∧ d.length ≤ cd ∧ Norm 4294967296 a ∧ Norm 4294967296 d ∧ val 4294967296 a = P.natAbs / Nat.gcd P.natAbs Q ∧ val 4294967296 d = Q / Nat.gcd P.natAbs Q

theorem gv_of_f {P : Int} {Q : Nat} {w w' : World} {e : Ending} (h : GivesF P Q w e w') : Gv (SF P Q) w e w' := by
  obtain ⟨A, a, ca, D, d, cd, rfl, h1, h2, h3, h4, h5, h6, h7, h8, h9⟩ := h
  exact ⟨_, a, A, ca, d, D, cd, rfl, ⟨rfl, h1, h2, h3, h4, h5, h6⟩, h7, h8, h9⟩
theorem f_of_gv {P : Int} {Q : Nat} {w w' : World} {e : Ending} (h : Gv (SF P Q) w e w') : GivesF P Q w e w' := by
  obtain ⟨n, a, A, ca, d, D, cd, rfl, ⟨rfl, h1, h2, h3, h4, h5, h6⟩, h7, h8, h9⟩ := h
  exact ⟨A, a, ca, D, d, cd, rfl, h1, h2, h3, h4, h5, h6, h7, h8, h9⟩
theorem Gv.imp {S T : Shape} {w w' : World} {e : Ending} (hs : ∀ n a ca d cd, S n a ca d cd → T n a ca d cd) (h : Gv S w e w') : Gv T w e w' := by
  obtain ⟨n, a, A, ca, d, D, cd, rfl, h1, h2⟩ := h
  exact ⟨n, a, A, ca, d, D, cd, rfl, hs _ _ _ _ _ h1, h2⟩

/-- equal fractions -/
theorem cross_swap {x y P P' Q Q' : Int} (hQ : 0 < Q) (h : P * Q' = P' * Q) (k : x * Q = P * y) : x * Q' = P' * y := by
  have h1 : x * Q' * Q = P' * y * Q := by
    rw [Int.mul_right_comm, k, Int.mul_right_comm, h, Int.mul_right_comm]
  exact Int.eq_of_mul_eq_mul_right (by omega) h1
theorem SR.conv {P P' : Int} {Q Q' m : Nat} (hQ : 0 < Q) (h : P * (Q' : Int) = P' * (Q : Int)) {n : Bool} {a d : List Nat} {ca cd : Nat} (k : SR P Q m n a ca d cd) : SR P' Q' m n a ca d cd := by
  obtain ⟨h1, h2, h3, h4, h5, h6, h7, h8⟩ := k
  exact ⟨h1, h2, h3, h4, h5, h6, h7, cross_swap (by omega) h h8⟩
theorem SR.wide {P : Int} {Q m m' : Nat} (hm : m ≤ m') {n : Bool} {a d : List Nat} {ca cd : Nat} (k : SR P Q m n a ca d cd) : SR P Q m' n a ca d cd := by
  obtain ⟨h1, h2, h3, h4, h5, h6, h7, h8⟩ := k
  exact ⟨h1, h2, h3, h4, Nat.le_trans h5 hm, Nat.le_trans h6 hm, h7, h8⟩
theorem SH.toR {P : Int} {Q m : Nat} (hQ : 0 < Q) {n : Bool} {a d : List Nat} {ca cd : Nat} (k : SH P Q m n a ca d cd) : SR P Q m n a ca d cd := by
  obtain ⟨h1, h2, h3, h4, h5, h6, h7, h8⟩ := k
  exact ⟨h1, h2, h3, h4, h5, h6, by omega, by rw [h7, h8]⟩
theorem SF.scale {P : Int} {Q k : Nat} (hk : 0 < k) {n : Bool} {a d : List Nat} {ca cd : Nat} : SF (P * (k : Int)) (Q * k) n a ca d cd ↔ SF P Q n a ca d cd := by
  have hn : (P * (k : Int)).natAbs = P.natAbs * k := by rw [Int.natAbs_mul, Int.natAbs_natCast]
  have hg : Nat.gcd (P.natAbs * k) (Q * k) = Nat.gcd P.natAbs Q * k := Nat.gcd_mul_right _ _ _
  have hs : decide (P * (k : Int) < 0) = decide (P < 0) := by
    rcases Int.lt_or_le P 0 with hp | hp
    · rw [decide_eq_true hp, decide_eq_true (Int.mul_neg_of_neg_of_pos hp (by omega))]
    · have := Int.mul_nonneg hp (show (0 : Int) ≤ (k : Int) by omega)
      rw [decide_eq_false (by omega), decide_eq_false (by omega)]
  unfold SF
  rw [hs, hn, hg, Nat.mul_div_mul_right _ _ hk, Nat.mul_div_mul_right _ _ hk]
theorem SF.conv {P P' : Int} {Q Q' : Nat} (hQ : 0 < Q) (hQ' : 0 < Q') (h : P * (Q' : Int) = P' * (Q : Int)) {n : Bool} {a d : List Nat} {ca cd : Nat} (k : SF P Q n a ca d cd) : SF P' Q' n a ca d cd := by
  have k1 := (SF.scale hQ').2 k
  rw [h, Nat.mul_comm] at k1
  exact (SF.scale hQ).1 k1
theorem GivesF.conv {P P' : Int} {Q Q' : Nat} {w w' : World} {e : Ending} (hQ : 0 < Q) (hQ' : 0 < Q') (h : P * (Q' : Int) = P' * (Q : Int)) (k : GivesF P Q w e w') : GivesF P' Q' w e w' :=
  f_of_gv ((gv_of_f k).imp fun _ _ _ _ _ => SF.conv hQ hQ' h)
/-- a reduced fraction as one that is handed in -/
theorem SF.toR {P : Int} {Q m : Nat} (hQ : 0 < Q) (hP : P.natAbs < 4294967296 ^ m) (hQm : Q < 4294967296 ^ m) {n : Bool} {a d : List Nat} {ca cd : Nat} (k : SF P Q n a ca d cd) : SR P Q m n a ca d cd := by
  obtain ⟨rfl, h1, h2, h3, h4, h5, h6⟩ := k
  obtain ⟨hg, e1, e2⟩ := reduced_parts hQ h5 h6
  have hd : 0 < val 4294967296 d := by
    rcases Nat.eq_zero_or_pos (val 4294967296 d) with h | h
    · rw [h6] at h
      have := Nat.div_mul_cancel (Nat.gcd_dvd_right P.natAbs Q)
      rw [h] at this; omega
    · exact h
  rw [upN_of hd] at e1
  rw [loD_of hd] at e2
  refine ⟨h1, h2, h3.1, h4.1, h3.2.length_le (b := 4294967296) (by omega) ?_, h4.2.length_le (b := 4294967296) (by omega) ?_, hd, ?_⟩
  · rw [h5]; exact Nat.lt_of_le_of_lt (Nat.div_le_self _ _) hP
  · rw [h6]; exact Nat.lt_of_le_of_lt (Nat.div_le_self _ _) hQm
  · generalize Nat.gcd P.natAbs Q = g at e1 e2
    generalize wv (decide (P < 0)) a = x at e1 ⊢
    generalize val 4294967296 d = y at e2 ⊢
    rw [← e1, ← e2, Int.natCast_mul, Int.mul_assoc, Int.mul_comm (g : Int)]
theorem SR.toI {P : Int} {Q m : Nat} {n : Bool} {a d : List Nat} {ca cd : Nat} (k : SR P Q m n a ca d cd) : SI (wv n a) (val 4294967296 d) m n a ca d cd := by
  obtain ⟨h1, h2, h3, h4, h5, h6, h7, h8⟩ := k
  exact ⟨h1, h2, h3, h4, h5, h6, upN_of h7, loD_of h7⟩

/-- a call's contract, in shapes: of one, of two -/
abbrev Fn1 (f : FuncId) (S T : Shape) : Prop := ∀ (n : Bool) (a d : List Nat) (A D : Option Addr) (ca cd : Nat) (w : World), S n a ca d cd → Rd w (fun g => g < w.heap.size) .u32 A a → Rd w (fun g => g < w.heap.size) .u32 D d → Calls Tryd.prog f #[.agg #[.bool n, .slice A a.length ca, .slice D d.length cd]] w (Gv T w)
abbrev Fn2 (f : FuncId) (S S' T : Shape) : Prop := ∀ (n n' : Bool) (a d a' d' : List Nat) (A D A' D' : Option Addr) (ca cd ca' cd' : Nat) (w : World), S n a ca d cd → S' n' a' ca' d' cd' → Rd w (fun g => g < w.heap.size) .u32 A a → Rd w (fun g => g < w.heap.size) .u32 D d → Rd w (fun g => g < w.heap.size) .u32 A' a' → Rd w (fun g => g < w.heap.size) .u32 D' d' → Calls Tryd.prog f #[.agg #[.bool n, .slice A a.length ca, .slice D d.length cd], .agg #[.bool n', .slice A' a'.length ca', .slice D' d'.length cd']] w (Gv T w)
theorem Fn1.imp {f : FuncId} {S T S' T' : Shape} (h : Fn1 f S T) (hs : ∀ n a ca d cd, S' n a ca d cd → S n a ca d cd) (ht : ∀ n a ca d cd, T n a ca d cd → T' n a ca d cd) : Fn1 f S' T' :=
  fun n a d A D ca cd w hS r q => (h n a d A D ca cd w (hs _ _ _ _ _ hS) r q).mono fun _ _ => Gv.imp ht
theorem Fn2.imp {f : FuncId} {S U T S' U' T' : Shape} (h : Fn2 f S U T) (hs : ∀ n a ca d cd, S' n a ca d cd → S n a ca d cd) (hu : ∀ n a ca d cd, U' n a ca d cd → U n a ca d cd) (ht : ∀ n a ca d cd, T n a ca d cd → T' n a ca d cd) : Fn2 f S' U' T' :=
  fun n n' a d a' d' A D A' D' ca cd ca' cd' w hS hU r q r' q' => (h n n' a d a' d' A D A' D' ca cd ca' cd' w (hs _ _ _ _ _ hS) (hu _ _ _ _ _ hU) r q r' q').mono fun _ _ => Gv.imp ht

/-- any fraction stored where the result lies -/
theorem fin_any {w v : World} {g : Nat} {t : TypeId} (k : Blk v g t [.bool false, .slice none 0 0, .slice none 0 0]) (hg : w.heap.size ≤ g) (B : Below w.heap.size w v) {S : Shape} {n : Bool} {A D : Option Addr} {a d : List Nat} {ca cd : Nat} (hs : S n a ca d cd) (r : Rd v (fun g => g < v.heap.size) .u32 A a) (q : Rd v (fun g => g < v.heap.size) .u32 D d) :
    ∃ U, ((v.setCell ⟨g, 0, none⟩ (.bool n)).setCell ⟨g, 1, none⟩ (.slice A a.length ca)).setCell ⟨g, 2, none⟩ (.slice D d.length cd) = U ∧ U.cell? ⟨g, 0, none⟩ = some (.bool n) ∧ U.cell? ⟨g, 1, none⟩ = some (.slice A a.length ca) ∧ U.cell? ⟨g, 2, none⟩ = some (.slice D d.length cd) ∧
      Gv S w (.returned (.agg #[.bool n, .slice A a.length ca, .slice D d.length cd])) U := by
  obtain ⟨U, hU, u0, u1, u2, -, bU, -, -⟩ := k.three (.bool n) (.slice A a.length ca) (.slice D d.length cd)
  exact ⟨U, hU, u0, u1, u2, n, a, A, ca, d, D, cd, rfl, hs, r.far3 k _ _ _ hU, q.far3 k _ _ _ hU, B.trans (bU _ hg)⟩
/-- boxes of three: one, two, three, four of them, of whatever types -/
theorem bx1 (w : World) (t : TypeId) (v0 v1 v2 : Value) : ∃ W, w.alloc (.cells #[v0, v1, v2] t) = W ∧ Blk W w.heap.size t [v0, v1, v2] ∧ Below w.heap.size w W ∧ W.heap.size = w.heap.size + 1 :=
  ⟨_, rfl, Blk.new w t [v0, v1, v2], below_one w _, by simp⟩
theorem bx2 (w : World) (t t' : TypeId) (v0 v1 v2 u0 u1 u2 : Value) : ∃ W, (w.alloc (.cells #[v0, v1, v2] t)).alloc (.cells #[u0, u1, u2] t') = W ∧ Blk W w.heap.size t [v0, v1, v2] ∧ Blk W (w.heap.size + 1) t' [u0, u1, u2] ∧ Below w.heap.size w W ∧ W.heap.size = w.heap.size + 2 := by
  obtain ⟨V, hV, k, b, s⟩ := bx1 w t v0 v1 v2
  rw [hV]
  exact ⟨_, rfl, k.alloc _, Blk.at_new V t' [u0, u1, u2] (by rw [s]), b.trans ((below_one V _).mono (by omega)), by simp [s]⟩
theorem bx3 (w : World) (t t' t'' : TypeId) (v0 v1 v2 u0 u1 u2 x0 x1 x2 : Value) : ∃ W, ((w.alloc (.cells #[v0, v1, v2] t)).alloc (.cells #[u0, u1, u2] t')).alloc (.cells #[x0, x1, x2] t'') = W ∧ Blk W w.heap.size t [v0, v1, v2] ∧ Blk W (w.heap.size + 1) t' [u0, u1, u2] ∧ Blk W (w.heap.size + 1 + 1) t'' [x0, x1, x2] ∧ Below w.heap.size w W ∧ W.heap.size = w.heap.size + 3 := by
  obtain ⟨V, hV, k, k', b, s⟩ := bx2 w t t' v0 v1 v2 u0 u1 u2
  rw [hV]
  exact ⟨_, rfl, k.alloc _, k'.alloc _, Blk.at_new V t'' [x0, x1, x2] (by rw [s]), b.trans ((below_one V _).mono (by omega)), by simp [s]⟩
end Go.Proofs.YtngnclibeccplaaDoor
/- Fractions: what the program's own one, isOne, size, Int, hold and reduced answer. -/

namespace Go.Proofs.YtngnclibeccplaaDoor
open Go.RowKit Num

/-- 1 -/
theorem frac_one (w : World) : Calls Tryd.prog 62 #[] w (Gives .u32 4294967296 1 w) := by
  have c : Calls Tryd.prog 70 #[.int .u64 1] w (Gives .u32 4294967296 1 w) := nat_Of 1 (by omega) w
  go_enter Tryd.func62, Tryd.ntmps62
  go_wp2_with fail
  refine c.mono ?_
  rintro e w1 ⟨A1, xs, c1, rfl, hc1, hn1, hv1, hr1, hb1⟩
  have H := Lib.hid (And.intro hn1 hv1)
  clear hn1 hv1 c
  go_wp2_with fail
  go_ret
  exact ⟨A1, xs, c1, rfl, hc1, H.out.1, H.out.2, hr1, hb1⟩
theorem isBits_one_iff {N n : Nat} (h : IsBits N n) : n = 1 ↔ N = 1 := by
  obtain ⟨h1, h2⟩ := h
  constructor
  · rintro rfl
    simp at h1 h2
    omega
  · rintro rfl
    rcases h2 with rfl | h2
    · simp at h1
    · rcases Nat.lt_or_ge n 2 with h | h
      · match n, h with
        | 0, _ => simp at h1
        | 1, _ => rfl
      · have : 2 ^ 1 ≤ 2 ^ (n - 1) := Nat.pow_le_pow_right (by omega) (by omega)
        omega
set_option maxRecDepth 10000 in
set_option maxHeartbeats 800000 in
/-- a whole number -/
theorem frac_Int (n : Int) (hn1 : -9223372036854775808 ≤ n) (hn2 : n ≤ 9223372036854775807) (w : World) :
    Calls Tryd.prog 52 #[.int .i64 n] w (Gv (SF n 1) w) := by
  obtain ⟨W, hW, k, b0, s0⟩ := bx1 w 74 (.bool false) (.slice none 0 0) (.slice none 0 0)
  have cO := fun (V : World) => whole_Of n hn1 hn2 V
  have c1 := fun (V : World) => frac_one V
  go_enter Tryd.func52, Tryd.ntmps52
  go_wp2_with fail
  try rw [hW]
  clear hW
  refine (cO W).mono ?_
  rintro e w1 ⟨X, x, cx, rfl, hcx, hnx, hvx, rx, b1⟩
  have HX := Lib.hid (And.intro hnx hvx)
  clear cO hnx hvx
  go_wp2_with fail
  refine (c1 w1).mono ?_
  rintro e w2 ⟨Y, y, cy, rfl, hcy, hny, hvy, ry, b2⟩
  have K := (k.below b1 k.lt).below b2 (k.below b1 k.lt).lt
  have B := (b0.trans (b1.mono b0.size)).trans (b2.mono (Nat.le_trans b0.size b1.size))
  obtain ⟨i0, i1, i2, i3, i4, i5⟩ := K.facts
  obtain ⟨Z, hZ, u0, u1, u2, hG⟩ := fin_any (S := SF n 1) K (Nat.le_refl _) B (n := decide (n < 0)) (a := x) (d := y) (ca := cx) (cd := cy) ⟨rfl, hcx, hcy, HX.out.1, hny, by rw [Nat.gcd_one_right, Nat.div_one]; exact HX.out.2, by rw [Nat.gcd_one_right]; exact hvy⟩ (rx.on b2) ry
  have HZ := Lib.hid hZ
  have HF := Lib.hid (And.intro u0 (And.intro u1 u2))
  have HG := Lib.hid hG
  clear hZ u0 u1 u2 hG c1 k K rx ry b1 b2 B hny hvy
  go_wp2_with fail
  rw [HZ.out]
  obtain ⟨u0, u1, u2⟩ := HF.out
  exact bodyPost_ret (by simp [results, Tryd.results52, go_sem, u0, u1, u2]) rfl HG.out

/-- 0 by 1, as it stands in words -/
theorem nought_words {n : Bool} {a d : List Nat} {ca cd : Nat} (h : SF 0 1 n a ca d cd) : n = false ∧ a = [] ∧ d = [1] := by
  obtain ⟨h0, -, -, h1, h2, h3, h4⟩ := h
  simp only [Nat.gcd_one_right, Nat.div_one] at h3 h4
  exact ⟨by rw [h0]; rfl, Norm.ext (by omega) h1 (norm_nil _) (by rw [h3]; rfl), Norm.ext (by omega) h2 (norm_one (by omega) (by omega)) (by rw [h4]; rfl)⟩

end Go.Proofs.YtngnclibeccplaaDoor
/- Fractions: what the program's own neg, half, times answer. -/

namespace Go.Proofs.YtngnclibeccplaaDoor
open Go.RowKit Num

theorem mul4 {x x' P P' y y' Q Q' : Int} (h : x * Q = P * y) (g : x' * Q' = P' * y') : x * x' * (Q * Q') = P * P' * (y * y') := by
  rw [show x * x' * (Q * Q') = (x * Q) * (x' * Q') by ac_rfl, h, g]
  ac_rfl

end Go.Proofs.YtngnclibeccplaaDoor
/- Fractions, the document's own: what Int, Half, Make, Div and Cmp answer. -/

namespace Go.Proofs.YtngnclibeccplaaDoor
open Go.RowKit Num

end Go.Proofs.YtngnclibeccplaaDoor
/- Fractions, the document's own: what Make, Div and Cmp answer. -/

namespace Go.Proofs.YtngnclibeccplaaDoor
open Go.RowKit Num

/-- a fraction, or 5 where the lower part is 0 -/
def GivesFE (P : Int) (Q : Nat) (w : World) (e : Ending) (w' : World) : Prop :=
  (Q = 0 ∧ e = .returned (.tuple #[.agg #[.bool false, .slice none 0 0, .slice none 0 0], .int .i64 5]) ∧ Below w.heap.size w w') ∨
    (0 < Q ∧ ∃ v, e = .returned (.tuple #[v, .int .i64 0]) ∧ GivesF P Q w (.returned v) w')
theorem keep2w {W V : World} {g : Nat} {t : TypeId} {a0 a1 : Value} (k : Blk W g t [a0, a1]) (hb : Below W.heap.size W V) : V.cell? ⟨g, 0, none⟩ = some a0 ∧ V.cell? ⟨g, 1, none⟩ = some a1 := by
  have k' := k.below hb k.lt
  exact ⟨k'.cell 0 rfl, k'.cell 1 rfl⟩
theorem far_cells2 {v : World} {g g' : Nat} {t : TypeId} {a0 a1 : Value} (k : Blk v g t [a0, a1]) (hne : g ≠ g') (u0 u1 u2 : Value) :
    (((v.setCell ⟨g', 0, none⟩ u0).setCell ⟨g', 1, none⟩ u1).setCell ⟨g', 2, none⟩ u2).cell? ⟨g, 0, none⟩ = some a0 ∧ (((v.setCell ⟨g', 0, none⟩ u0).setCell ⟨g', 1, none⟩ u1).setCell ⟨g', 2, none⟩ u2).cell? ⟨g, 1, none⟩ = some a1 := by
  have k' := ((k.far (p := ⟨g', 0, none⟩) hne u0).far (p := ⟨g', 1, none⟩) hne u1).far (p := ⟨g', 2, none⟩) hne u2
  exact ⟨k'.cell 0 rfl, k'.cell 1 rfl⟩
/-- two whole numbers' boxes and the one of a result that is a fraction -/
theorem whole_boxesf (w : World) (v0 v1 u0 u1 : Value) : ∃ W, ((w.alloc (.cells #[v0, v1] 72)).alloc (.cells #[u0, u1] 72)).alloc (.cells #[.bool false, .slice none 0 0, .slice none 0 0] 74) = W ∧ Blk W w.heap.size 72 [v0, v1] ∧ Blk W (w.heap.size + 1) 72 [u0, u1] ∧ Blk W (w.heap.size + 1 + 1) 74 [.bool false, .slice none 0 0, .slice none 0 0] ∧ Below w.heap.size w W ∧ W.heap.size = w.heap.size + 3 :=
  ⟨_, rfl, ((Blk.new w 72 [v0, v1]).alloc _).alloc _, (Blk.at_new (w.alloc (.cells #[v0, v1] 72)) 72 [u0, u1] (by simp)).alloc _, Blk.at_new ((w.alloc (.cells #[v0, v1] 72)).alloc (.cells #[u0, u1] 72)) 74 [.bool false, .slice none 0 0, .slice none 0 0] (by simp),
    (((below_one w _).alloc (by simp) _).alloc (by simp; omega) _), by simp⟩

end Go.Proofs.YtngnclibeccplaaDoor
/- Fractions, the document's own: what Cmp answers. -/

namespace Go.Proofs.YtngnclibeccplaaDoor
open Go.RowKit Num

/-- two arguments' boxes -/
theorem frac_pair (w : World) (v0 v1 v2 u0 u1 u2 : Value) : ∃ W, (w.alloc (.cells #[v0, v1, v2] 74)).alloc (.cells #[u0, u1, u2] 74) = W ∧ Blk W w.heap.size 74 [v0, v1, v2] ∧ Blk W (w.heap.size + 1) 74 [u0, u1, u2] ∧ Below w.heap.size w W ∧ W.heap.size = w.heap.size + 2 :=
  ⟨_, rfl, (Blk.new w 74 [v0, v1, v2]).alloc _, Blk.at_new (w.alloc (.cells #[v0, v1, v2] 74)) 74 [u0, u1, u2] (by simp),
    ((below_one w _).alloc (by simp) _), by simp⟩

end Go.Proofs.YtngnclibeccplaaDoor
/- Fractions, the document's own: what Div answers. -/

namespace Go.Proofs.YtngnclibeccplaaDoor
open Go.RowKit Num

/-- what stands in a fraction and an error that are answered together -/
def Fit (P : Int) (Q : Nat) (n : Bool) (A : Option Addr) (la ca : Nat) (D : Option Addr) (ld cd : Nat) (c : Int) (w' : World) : Prop :=
  (Q = 0 ∧ n = false ∧ A = none ∧ la = 0 ∧ ca = 0 ∧ D = none ∧ ld = 0 ∧ cd = 0 ∧ c = 5) ∨
    (0 < Q ∧ n = decide (P < 0) ∧ c = 0 ∧ ∃ a d, la = a.length ∧ ld = d.length ∧ a.length ≤ ca ∧ d.length ≤ cd ∧ Norm 4294967296 a ∧ Norm 4294967296 d ∧ val 4294967296 a = P.natAbs / Nat.gcd P.natAbs Q ∧ val 4294967296 d = Q / Nat.gcd P.natAbs Q ∧ Rd w' (fun g => g < w'.heap.size) .u32 A a ∧ Rd w' (fun g => g < w'.heap.size) .u32 D d)
theorem GivesFE.one {P : Int} {Q : Nat} {w w' : World} {e : Ending} (h : GivesFE P Q w e w') : ∃ n A la ca D ld cd c, e = .returned (.tuple #[.agg #[.bool n, .slice A la ca, .slice D ld cd], .int .i64 c]) ∧ Fit P Q n A la ca D ld cd c w' ∧ Below w.heap.size w w' := by
  rcases h with ⟨h0, rfl, b⟩ | ⟨h0, v, rfl, A, a, ca, D, d, cd, he, h1, h2, h3, h4, h5, h6, h7, h8, b⟩
  · exact ⟨_, _, _, _, _, _, _, _, rfl, .inl ⟨h0, rfl, rfl, rfl, rfl, rfl, rfl, rfl, rfl⟩, b⟩
  · cases he
    exact ⟨_, _, _, _, _, _, _, _, rfl, .inr ⟨h0, rfl, rfl, a, d, rfl, rfl, h1, h2, h3, h4, h5, h6, h7, h8⟩, b⟩
/-- both stored where they lie -/
theorem fin_fit {w v : World} {g : Nat} {t : TypeId} (k : Blk v g t [.bool false, .slice none 0 0, .slice none 0 0]) (hg : w.heap.size ≤ g) (B : Below w.heap.size w v) {P : Int} {Q : Nat} {n : Bool} {A D : Option Addr} {la ca ld cd : Nat} {c : Int} (F : Fit P Q n A la ca D ld cd c v) :
    ∃ U, ((v.setCell ⟨g, 0, none⟩ (.bool n)).setCell ⟨g, 1, none⟩ (.slice A la ca)).setCell ⟨g, 2, none⟩ (.slice D ld cd) = U ∧ U.cell? ⟨g, 0, none⟩ = some (.bool n) ∧ U.cell? ⟨g, 1, none⟩ = some (.slice A la ca) ∧ U.cell? ⟨g, 2, none⟩ = some (.slice D ld cd) ∧
      GivesFE P Q w (.returned (.tuple #[.agg #[.bool n, .slice A la ca, .slice D ld cd], .int .i64 c])) U := by
  rcases F with ⟨h0, rfl, rfl, rfl, rfl, rfl, rfl, rfl, rfl⟩ | ⟨h0, rfl, rfl, a, d, rfl, rfl, h1, h2, h3, h4, h5, h6, h7, h8⟩
  · obtain ⟨U, hU, u0, u1, u2, -, bU, -, -⟩ := k.three (.bool false) (.slice none 0 0) (.slice none 0 0)
    exact ⟨U, hU, u0, u1, u2, .inl ⟨h0, rfl, B.trans (bU _ hg)⟩⟩
  · obtain ⟨U, hU, u0, u1, u2, hG⟩ := fin_frac k hg B h1 h2 h3 h4 h5 h6 h7 h8
    exact ⟨U, hU, u0, u1, u2, .inr ⟨h0, _, rfl, hG⟩⟩
/-- the upper part of a number by another one, that may be below 0 -/
def acrossN (P1 P2 : Int) : Int := if P2 < 0 then - P1 else P1
/-- the sign of a number by another one -/
theorem wv_across {P1 P2 : Int} {x : List Nat} (h : val 4294967296 x = P1.natAbs) : wv (!(decide (P1 < 0) == decide (P2 < 0))) x = acrossN P1 P2 := by
  unfold acrossN
  by_cases h2 : P2 < 0
  · rw [if_pos h2, decide_eq_true h2]
    by_cases h1 : P1 < 0
    · rw [decide_eq_true h1]
      show wv false x = _
      rw [wv_false, h]; omega
    · rw [decide_eq_false h1]
      show wv true x = _
      rw [wv_true, h]; omega
  · rw [if_neg h2, decide_eq_false h2]
    by_cases h1 : P1 < 0
    · rw [decide_eq_true h1]
      show wv true x = _
      rw [wv_true, h]; omega
    · rw [decide_eq_false h1]
      show wv false x = _
      rw [wv_false, h]; omega

end Go.Proofs.YtngnclibeccplaaDoor
