/- Fractions: what the program's own Floor and Round answer. -/
import Derived.Test.YtokaapljlpngdaaGreatDoorZFpH
import Derived.Test.YtokaapljlpngdaaGreatDoorZFpY
import Derived.Test.YtokaapljlpngdaaGreatDoorZFrM
import Derived.Test.YtokaapljlpngdaaGreatDoorZLawF
import Derived.Test.YtokaapljlpngdaaGreatDoorZFrL
import Derived.Deep.RegionWith
namespace Go.Proofs.YtokaapljlpngdaaGreatDoor
open Go.RowKit Num

/-- the contract of what answers a whole number of one fraction -/
abbrev Fw (f : FuncId) (S : Shape) (N : Int) : Prop := ∀ (n : Bool) (a d : List Nat) (A D : Option Addr) (ca cd : Nat) (w : World), S n a ca d cd → Rd w (fun g => g < w.heap.size) .u32 A a → Rd w (fun g => g < w.heap.size) .u32 D d → Calls Tryz.prog f #[.agg #[.bool n, .slice A a.length ca, .slice D d.length cd]] w (GivesW N w)
theorem fin_whole {w v : World} {g : Nat} {t : TypeId} (k : Blk v g t [.bool false, .slice none 0 0]) (hg : w.heap.size ≤ g) (B : Below w.heap.size w v) {N : Int} {A : Option Addr} {x : List Nat} {c : Nat} (hc : x.length ≤ c) (hn : Norm 4294967296 x) (hv : val 4294967296 x = N.natAbs) (r : Rd v (fun g => g < v.heap.size) .u32 A x) :
    ∃ U, (v.setCell ⟨g, 0, none⟩ (.bool (decide (N < 0)))).setCell ⟨g, 1, none⟩ (.slice A x.length c) = U ∧ U.cell? ⟨g, 0, none⟩ = some (.bool (decide (N < 0))) ∧ U.cell? ⟨g, 1, none⟩ = some (.slice A x.length c) ∧ GivesW N w (.returned (.agg #[.bool (decide (N < 0)), .slice A x.length c])) U :=
  ⟨_, rfl, (k.pair _ _).cell 0 rfl, (k.pair _ _).cell 1 rfl, A, x, c, rfl, hc, hn, hv, r.far2 k _ _, (B.setCell hg _).setCell hg _⟩
theorem keep3s {v : World} {g g' : Nat} {t : TypeId} {a0 a1 a2 : Value} (k : Blk v g t [a0, a1, a2]) (hne : g ≠ g') (u0 u1 : Value) :
    ((v.setCell ⟨g', 0, none⟩ u0).setCell ⟨g', 1, none⟩ u1).cell? ⟨g, 0, none⟩ = some a0 ∧ ((v.setCell ⟨g', 0, none⟩ u0).setCell ⟨g', 1, none⟩ u1).cell? ⟨g, 1, none⟩ = some a1 ∧ ((v.setCell ⟨g', 0, none⟩ u0).setCell ⟨g', 1, none⟩ u1).cell? ⟨g, 2, none⟩ = some a2 := by
  have k' := (k.far (p := ⟨g', 0, none⟩) hne u0).far (p := ⟨g', 1, none⟩) hne u1
  exact ⟨k'.cell 0 rfl, k'.cell 1 rfl, k'.cell 2 rfl⟩

end Go.Proofs.YtokaapljlpngdaaGreatDoor
/- Fractions: what the program's own Text answers. -/

namespace Go.Proofs.YtokaapljlpngdaaGreatDoor
open Go.RowKit Num

set_option maxRecDepth 10000 in
set_option maxHeartbeats 1600000 in
/-- a fraction's text -/
theorem frac_Text (P : Int) (Q m : Nat) (hQ : 0 < Q) (hm1 : 1 ≤ m) (hm : m ≤ 2097152) (n : Bool) (a d : List Nat) (A D : Option Addr) (ca cd : Nat) (w : World) (hS : SI P Q m n a ca d cd) (h : Rd w (fun g => g < w.heap.size) .u32 A a) (h' : Rd w (fun g => g < w.heap.size) .u32 D d) (htab : Tab w) :
    Calls Tryz.prog 30 #[.agg #[.bool n, .slice A a.length ca, .slice D d.length cd]] w (fun e w' => e = .returned (.string ⟨(ftext P Q).toArray⟩) ∧ Below w.heap.size w w') := by
  obtain ⟨W, hW, k1, b0, s0⟩ := bx1 w 29 (.bool n) (.slice A a.length ca) (.slice D d.length cd)
  obtain ⟨p0, p1, p2, -, -, -⟩ := k1.facts
  have h := h.on b0
  have h' := h'.on b0
  have cR := fun (V : World) (hV : Below W.heap.size W V) => frac_Reduce P Q m hQ hm1 (by omega) n a d A D ca cd V hS (h.on hV) (h'.on hV)
  go_enter Tryz.func30, Tryz.ntmps30
  go_wp2_with fail
  try rw [hW]
  clear hW
  refine (cR W (Below.refl _ _)).mono ?_
  rintro e w1 ⟨n1, x, X, cx, y, Y, cy, rfl, hs, r1, q1, b1⟩
  obtain ⟨rfl, hcx, hcy, hnx, hny, hvx, hvy⟩ := hs
  have lx := hnx.2.length_le (b := 4294967296) (n := m) (by omega) (by
    rw [hvx]
    refine Nat.lt_of_le_of_lt (Nat.div_le_self _ _) ?_
    rw [← hS.2.2.2.2.2.2.1]
    exact Nat.lt_of_le_of_lt (up_abs n a d) (Nat.lt_of_lt_of_le (val_lt hS.2.2.1) (Nat.pow_le_pow_right (by omega) hS.2.2.2.2.1)))
  have ly := hny.2.length_le (b := 4294967296) (n := m) (by omega) (by
    rw [hvy]
    refine Nat.lt_of_le_of_lt (Nat.div_le_self _ _) ?_
    rw [← hS.2.2.2.2.2.2.2]
    unfold loD
    have := Nat.pow_le_pow_right (n := 4294967296) (by omega) hm1
    split
    · omega
    · exact Nat.lt_of_lt_of_le (val_lt hS.2.2.2.1) (Nat.pow_le_pow_right (by omega) hS.2.2.2.2.2.1))
  obtain ⟨V, hV, KV, bV, sV⟩ := bx1 w1 29 (.bool (decide (P < 0))) (.slice X x.length cx) (.slice Y y.length cy)
  have BV := (b0.trans (b1.mono b0.size)).trans (bV.mono (Nat.le_trans b0.size b1.size))
  have rx := r1.on bV
  have qy := q1.on bV
  have hlv := KV.lt
  have cN := fun (Z : World) (hZ : Below V.heap.size V Z) => whole_Text (decide (P < 0)) x X cx Z (rx.on hZ) (by omega) hcx hnx.1 (htab.on (BV.trans (hZ.mono BV.size)))
  have cD := fun (Z : World) (hZ : Below V.heap.size V Z) => nat_Text y Y cy _ Z (qy.on hZ) (fun g hg => hg) (by omega) hcy hny.1 (htab.on (BV.trans (hZ.mono BV.size)))
  rw [ftop_of hvx] at cN
  rw [hvy] at cD
  have lN : (wtext (ftop P Q)).length ≤ 4000000000000 := by
    have h1 := wtext_len (ftop P Q)
    rw [← ftop_of hvx, wv_abs] at h1
    have h2 := dec_len_words (val_lt hnx.1)
    rw [ftop_of hvx] at h1
    omega
  have lD : (Lib.decDigits (Q / Nat.gcd P.natAbs Q)).length ≤ 4000000000000 := by
    have h2 := dec_len_words (val_lt hny.1)
    rw [hvy] at h2
    omega
  have cI := fun (b : Bool) (hb : decide (val 4294967296 y = 1) = b) => frac_isOne y Y cy V qy (by omega) hcy hny.1 b hb
  rw [hvy] at cI
  obtain ⟨N, hN⟩ : ∃ N, wtext (ftop P Q) = N := ⟨_, rfl⟩
  obtain ⟨M, hM⟩ : ∃ M, Lib.decDigits (Q / Nat.gcd P.natAbs Q) = M := ⟨_, rfl⟩
  have HF := Lib.hid (show ftext P Q = if Q / Nat.gcd P.natAbs Q = 1 then N else N ++ 47 :: M by rw [← hN, ← hM]; rfl)
  rw [hN] at lN
  rw [hM] at lD
  simp only [hN] at cN
  simp only [hM] at cD
  have CN := Lib.hid cN
  have CD := Lib.hid cD
  have HKV := Lib.hid KV
  have HBV := Lib.hid BV
  have HVV := Lib.hid hV
  clear cN cD hN hM rx qy r1 q1 KV bV BV hvx hvy b1 b0 k1 hV h h' cR p0 p1 p2 hS lx ly hnx hny
  obtain ⟨x0, x1, x2⟩ := keep3 HKV.out (Below.refl _ _)
  by_cases h1 : Q / Nat.gcd P.natAbs Q = 1
  · have cI := cI true (decide_eq_true h1)
    have HT := Lib.hid (show ftext P Q = N by rw [HF.out, if_pos h1])
    clear h1 HF
    go_wp2_with fail
    rw [HVV.out]
    refine cI.mono ?_
    rintro e w2 ⟨rfl, rfl⟩
    go_wp2_with fail
    refine (CN.out _ (Below.refl _ _)).mono ?_
    rintro e w3 ⟨rfl, b3⟩
    have B3 := HBV.out.trans (b3.mono HBV.out.size)
    go_wp2_with fail
    go_ret
    exact ⟨by rw [HT.out]; rfl, B3⟩
  · have cI := cI false (decide_eq_false h1)
    have HT := Lib.hid (show ftext P Q = N ++ 47 :: M by rw [HF.out, if_neg h1])
    clear h1 HF
    go_wp2_with fail
    rw [HVV.out]
    refine cI.mono ?_
    rintro e w2 ⟨rfl, rfl⟩
    have K0' : Below V.heap.size V V.drew := below_drewN (Below.refl V.heap.size V) 1
    clear cI
    go_wp2_with fail
    have hs1 : ¬ 9223372036854775807 < N.length + 1 := by omega
    have hs2 : ¬ 9223372036854775807 < N.length + 1 + M.length := by omega
    go_region_held3 (fun w' => w'.cell? ⟨w1.heap.size, 0, none⟩ = some (.bool (decide (P < 0))) ∧ w'.cell? ⟨w1.heap.size, 1, none⟩ = some (.slice X x.length cx) ∧ w'.cell? ⟨w1.heap.size, 2, none⟩ = some (.slice Y y.length cy))
      (first | (with_reducible exact keep3 HKV.out K0') | exact keep3 HKV.out K0' | (with_reducible exact keep3 HKV.out KA) | (with_reducible exact keep3 HKV.out KB) | go_keep)
      ((first
        | (go_at_call 60; (with_reducible refine Calls.mono (CN.out _ K0') ?_); rintro e w3 ⟨rfl, b3⟩; have KA := below_next K0' (Nat.le_refl _) b3)
        | (go_at_call 61; (with_reducible refine Calls.mono (CD.out _ KA) ?_); rintro e w4 ⟨rfl, b4⟩; have KB := below_next KA (Nat.le_refl _) b4)))
    all_goals
      have B3 := HBV.out.trans (KB.mono HBV.out.size)
      go_wp2_with fail
      go_ret
      exact ⟨by rw [HT.out, ← text_join]; rfl, B3⟩
end Go.Proofs.YtokaapljlpngdaaGreatDoor
/- Fractions: what the program's own Sum answers, of none, one, two and three. -/

namespace Go.Proofs.YtokaapljlpngdaaGreatDoor
open Go.RowKit Num

theorem tri_keep {V w1 : World} {g o B : Nat} {x y z : Value} (k1 : V.cell? ⟨g, o, none⟩ = some x) (k2 : V.cell? ⟨g, o + 1, none⟩ = some y) (k3 : V.cell? ⟨g, o + 2, none⟩ = some z) (hB : g < B) (hb : Below B V w1) : w1.cell? ⟨g, o, none⟩ = some x ∧ w1.cell? ⟨g, o + 1, none⟩ = some y ∧ w1.cell? ⟨g, o + 2, none⟩ = some z :=
  ⟨(hb.cell (p := ⟨g, o, none⟩) hB).trans k1, (hb.cell (p := ⟨g, o + 1, none⟩) hB).trans k2, (hb.cell (p := ⟨g, o + 2, none⟩) hB).trans k3⟩
theorem below_three {W V : World} {B g : Nat} (h : Below B W V) (hg : B ≤ g) (u0 u1 u2 : Value) : Below B W (((V.setCell ⟨g, 0, none⟩ u0).setCell ⟨g, 1, none⟩ u1).setCell ⟨g, 2, none⟩ u2) := ((h.setCell hg _).setCell hg _).setCell hg _

end Go.Proofs.YtokaapljlpngdaaGreatDoor
