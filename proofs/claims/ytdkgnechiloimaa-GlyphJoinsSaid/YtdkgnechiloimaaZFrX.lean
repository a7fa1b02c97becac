/- Fractions, the document's own: what worth, up and Reduce answer. -/
import Derived.Test.YtdkgnechiloimaaZWrX
import Derived.Test.YtdkgnechiloimaaZRrX
import Derived.Test.YtdkgnechiloimaaZWrY
namespace Go.Proofs.Ytdkgnechiloimaa
open Go.RowKit Num

/-- three cells stored into a block -/
theorem Blk.three {w : World} {g : Nat} {t : TypeId} {a0 a1 a2 : Value} (h : Blk w g t [a0, a1, a2]) (u0 u1 u2 : Value) :
    ∃ W, ((w.setCell ⟨g, 0, none⟩ u0).setCell ⟨g, 1, none⟩ u1).setCell ⟨g, 2, none⟩ u2 = W ∧ W.cell? ⟨g, 0, none⟩ = some u0 ∧ W.cell? ⟨g, 1, none⟩ = some u1 ∧ W.cell? ⟨g, 2, none⟩ = some u2 ∧ Blk W g t [u0, u1, u2] ∧ (∀ B, B ≤ g → Below B w W) ∧ (∀ g' t' vs, g' ≠ g → Blk w g' t' vs → Blk W g' t' vs) ∧ W.heap.size = w.heap.size := by
  have k := ((h.set 0 u0).set 1 u1).set 2 u2
  exact ⟨_, rfl, k.cell 0 rfl, k.cell 1 rfl, k.cell 2 rfl, k, fun _ hB => (((Below.refl _ _).setCell hB _).setCell hB _).setCell hB _, fun _ _ _ hne k => ((k.far hne u0).far hne u1).far hne u2, by simp [World.setCell]⟩
/-- words that are read stay when another block's cells are stored, one that holds no integers there -/
theorem Num.Rd.far3 {w : World} {g : Nat} {t : TypeId} {x : Bool} {p q : Option Addr} {n m n' m' : Nat} {k : IntKind} {A : Option Addr} {xs : List Nat} (h : Rd w (fun g => g < w.heap.size) k A xs) (f : Blk w g t [.bool x, .slice p n m, .slice q n' m']) {W : World} (u0 u1 u2 : Value) (hW : ((w.setCell ⟨g, 0, none⟩ u0).setCell ⟨g, 1, none⟩ u1).setCell ⟨g, 2, none⟩ u2 = W) : Rd W (fun g => g < W.heap.size) k A xs := fun hn => by
  obtain ⟨b, o, e, hb, hc⟩ := h hn
  have hne : b ≠ g := by
    rintro rfl
    have h0 := hc 0 hn
    rw [cell_of_row _ _ _ _ _ _ f] at h0
    match o, h0 with
    | 0, h0 => simp at h0
    | 1, h0 => simp at h0
    | 2, h0 => simp at h0
    | o + 3, h0 => simp at h0
  subst hW
  refine ⟨b, o, e, by simpa [World.setCell] using hb, fun j hj => ?_⟩
  rw [← hc j hj]
  exact World.cell?_of_block (((Below.heap_setCell _ _ u2 b hne).trans (Below.heap_setCell _ _ u1 b hne)).trans (Below.heap_setCell _ _ u0 b hne))
/-- a cell's facts of three -/
theorem Blk.facts {w : World} {g : Nat} {t : TypeId} {a0 a1 a2 : Value} (h : Blk w g t [a0, a1, a2]) : w.cell? ⟨g, 0, none⟩ = some a0 ∧ w.cell? ⟨g, 1, none⟩ = some a1 ∧ w.cell? ⟨g, 2, none⟩ = some a2 ∧ w.frozen? ⟨g, 0, none⟩ = false ∧ w.frozen? ⟨g, 1, none⟩ = false ∧ w.frozen? ⟨g, 2, none⟩ = false :=
  ⟨h.cell 0 rfl, h.cell 1 rfl, h.cell 2 rfl, h.frozen 0, h.frozen 1, h.frozen 2⟩

/-- a fraction, not reduced -/
def GivesRaw (P : Int) (Q m : Nat) (w : World) (e : Ending) (w' : World) : Prop :=
  ∃ n a A ca d D cd, e = .returned (.agg #[.bool n, .slice A a.length ca, .slice D d.length cd]) ∧ Dg 4294967296 a ∧ Dg 4294967296 d ∧ a.length ≤ m ∧ d.length ≤ m ∧ wv n a = P ∧ val 4294967296 d = Q ∧ Rd w' (fun g => g < w'.heap.size) .u32 A a ∧ Rd w' (fun g => g < w'.heap.size) .u32 D d ∧ Below w.heap.size w w'
/-- what a fraction is worth: its upper and its lower part -/
def upN (n : Bool) (a d : List Nat) : Int := if val 4294967296 d = 0 then 0 else wv n a
def loD (d : List Nat) : Nat := if val 4294967296 d = 0 then 1 else val 4294967296 d

/-- a fraction, reduced -/
def GivesF (P : Int) (Q : Nat) (w : World) (e : Ending) (w' : World) : Prop :=
  ∃ A a ca D d cd, e = .returned (.agg #[.bool (decide (P < 0)), .slice A a.length ca, .slice D d.length cd]) ∧ a.length ≤ ca ∧ d.length ≤ cd ∧ Norm 4294967296 a ∧ Norm 4294967296 d ∧ val 4294967296 a = P.natAbs / Nat.gcd P.natAbs Q ∧ val 4294967296 d = Q / Nat.gcd P.natAbs Q ∧
    Rd w' (fun g => g < w'.heap.size) .u32 A a ∧ Rd w' (fun g => g < w'.heap.size) .u32 D d ∧ Below w.heap.size w w'
theorem nought {Q : Nat} (hQ : 0 < Q) : val 4294967296 [] = (0 : Int).natAbs / Nat.gcd (0 : Int).natAbs Q ∧ val 4294967296 [1] = Q / Nat.gcd (0 : Int).natAbs Q := by
  simp only [Int.natAbs_zero, Nat.gcd_zero_left, Nat.zero_div]
  exact ⟨rfl, by rw [Nat.div_self hQ]; rfl⟩
theorem reduced_sign {n : Bool} {a x : List Nat} {g : Nat} (h : val 4294967296 x = val 4294967296 a / g) (hg : g ∣ val 4294967296 a) (ha : 0 < val 4294967296 a) : decide (wv n x < 0) = decide (wv n a < 0) := by
  have hx : 0 < val 4294967296 x := by
    rw [h]
    exact Nat.div_pos (Nat.le_of_dvd ha hg) (Nat.pos_of_dvd_of_pos hg ha)
  cases n
  · rw [wv_false, wv_false, decide_eq_false (by omega), decide_eq_false (by omega)]
  · rw [wv_true, wv_true, decide_eq_true (by omega), decide_eq_true (by omega)]

end Go.Proofs.Ytdkgnechiloimaa
/- Fractions, the document's own: what up, Neg, Sign and Floor answer. -/

namespace Go.Proofs.Ytdkgnechiloimaa
open Go.RowKit Num

theorem loD_pos (d : List Nat) : 0 < loD d := by
  unfold loD
  split <;> omega
theorem upN_of {n : Bool} {a d : List Nat} (h : 0 < val 4294967296 d) : upN n a d = wv n a := by unfold upN; rw [if_neg (by omega)]
theorem loD_of {d : List Nat} (h : 0 < val 4294967296 d) : loD d = val 4294967296 d := by unfold loD; rw [if_neg (by omega)]

/-- a reduced fraction stored where the result lies -/
theorem fin_frac {w v : World} {g : Nat} {t : TypeId} (k : Blk v g t [.bool false, .slice none 0 0, .slice none 0 0]) (hg : w.heap.size ≤ g) (B : Below w.heap.size w v) {P : Int} {Q : Nat} {A D : Option Addr} {a d : List Nat} {ca cd : Nat}
    (hc : a.length ≤ ca) (hd : d.length ≤ cd) (hn : Norm 4294967296 a) (hm : Norm 4294967296 d) (hv : val 4294967296 a = P.natAbs / Nat.gcd P.natAbs Q) (hu : val 4294967296 d = Q / Nat.gcd P.natAbs Q) (r : Rd v (fun g => g < v.heap.size) .u32 A a) (q : Rd v (fun g => g < v.heap.size) .u32 D d) :
    ∃ U, ((v.setCell ⟨g, 0, none⟩ (.bool (decide (P < 0)))).setCell ⟨g, 1, none⟩ (.slice A a.length ca)).setCell ⟨g, 2, none⟩ (.slice D d.length cd) = U ∧ U.cell? ⟨g, 0, none⟩ = some (.bool (decide (P < 0))) ∧ U.cell? ⟨g, 1, none⟩ = some (.slice A a.length ca) ∧ U.cell? ⟨g, 2, none⟩ = some (.slice D d.length cd) ∧
      GivesF P Q w (.returned (.agg #[.bool (decide (P < 0)), .slice A a.length ca, .slice D d.length cd])) U := by
  obtain ⟨U, hU, u0, u1, u2, -, bU, -, -⟩ := k.three (.bool (decide (P < 0))) (.slice A a.length ca) (.slice D d.length cd)
  exact ⟨U, hU, u0, u1, u2, A, a, ca, D, d, cd, rfl, hc, hd, hn, hm, hv, hu, r.far3 k _ _ _ hU, q.far3 k _ _ _ hU, B.trans (bU _ hg)⟩
theorem keep3 {W V : World} {g : Nat} {t : TypeId} {a0 a1 a2 : Value} (k : Blk W g t [a0, a1, a2]) (hb : Below W.heap.size W V) : V.cell? ⟨g, 0, none⟩ = some a0 ∧ V.cell? ⟨g, 1, none⟩ = some a1 ∧ V.cell? ⟨g, 2, none⟩ = some a2 := by
  have k' := k.below hb k.lt
  exact ⟨k'.cell 0 rfl, k'.cell 1 rfl, k'.cell 2 rfl⟩

end Go.Proofs.Ytdkgnechiloimaa
/- Fractions, the document's own: what Sign and Floor answer. -/

namespace Go.Proofs.Ytdkgnechiloimaa
open Go.RowKit Num

theorem keep_one {U V : World} (K : Below U.heap.size U V) (o : Obj) : Below U.heap.size U (V.alloc o) := Below.alloc K K.size o
theorem keep_two {U V : World} (K : Below U.heap.size U V) (o p : Obj) : Below U.heap.size U ((V.alloc o).alloc p) := keep_one (keep_one K o) p
end Go.Proofs.Ytdkgnechiloimaa
