/- Fractions, the document's own: what Text answers. -/
import Derived.Test.YtidbpkibjficnaaGreatDoorZFrV
import Derived.Test.YtidbpkibjficnaaGreatDoorZWrG
import Derived.Test.YtidbpkibjficnaaGreatDoorZTxtE
namespace Go.Proofs.YtidbpkibjficnaaGreatDoor
open Go.RowKit Num

/-- the text of P by Q -/
def ftop (P : Int) (Q : Nat) : Int := if P < 0 then - ((P.natAbs / Nat.gcd P.natAbs Q : Nat) : Int) else ((P.natAbs / Nat.gcd P.natAbs Q : Nat) : Int)
def ftext (P : Int) (Q : Nat) : List UInt8 := if Q / Nat.gcd P.natAbs Q = 1 then wtext (ftop P Q) else wtext (ftop P Q) ++ 47 :: Lib.decDigits (Q / Nat.gcd P.natAbs Q)
theorem ftop_of {P : Int} {Q : Nat} {x : List Nat} (h : val 4294967296 x = P.natAbs / Nat.gcd P.natAbs Q) : wv (decide (P < 0)) x = ftop P Q := by
  unfold ftop
  by_cases hp : P < 0
  · rw [if_pos hp, decide_eq_true hp, wv_true, h]
  · rw [if_neg hp, decide_eq_false hp, wv_false, h]
theorem one_iff {y : List Nat} (h : Norm 4294967296 y) : y = [1] ↔ val 4294967296 y = 1 :=
  ⟨fun e => by rw [e]; rfl, fun e => Norm.ext (by omega) h (norm_one (by omega) (by omega)) (by rw [e]; rfl)⟩
theorem text_join (N M : List UInt8) : ((⟨N.toArray⟩ : ByteArray) ++ ⟨#[47]⟩ ++ ⟨M.toArray⟩) = ⟨(N ++ 47 :: M).toArray⟩ := by
  apply ByteArray.ext
  simp [ByteArray.data_append]
theorem wtext_len (N : Int) : (wtext N).length ≤ (Lib.decDigits N.natAbs).length + 1 := by
  unfold wtext
  split <;> simp

set_option maxRecDepth 10000 in
set_option maxHeartbeats 1600000 in
theorem ref4_Text (n : Bool) (a d : List Nat) (A D : Option Addr) (ca cd : Nat) (w : World) (h : Rd w (fun g => g < w.heap.size) .u32 A a) (h' : Rd w (fun g => g < w.heap.size) .u32 D d) (hl : a.length ≤ 2097152) (hl' : d.length ≤ 2097152) (ha : Dg 4294967296 a) (hd : Dg 4294967296 d) :
    Calls Tryz.prog 44 #[.agg #[.bool n, .slice A a.length ca, .slice D d.length cd]] w (fun e w' => e = .returned (.string ⟨(ftext (upN n a d) (loD d)).toArray⟩) ∧ Below w.heap.size w w') := by
  obtain ⟨W, hW, k1, b0, s0⟩ := frac_box w (.bool n) (.slice A a.length ca) (.slice D d.length cd)
  obtain ⟨p0, p1, p2, -, -, -⟩ := k1.facts
  have cR := ref4_Reduce n a d A D ca cd W (h.on b0) (h'.on b0) (by omega) (by omega) ha hd
  have hlen : ∀ (x y : List Nat), Norm 4294967296 x → Norm 4294967296 y → val 4294967296 x = (upN n a d).natAbs / Nat.gcd (upN n a d).natAbs (loD d) → val 4294967296 y = loD d / Nat.gcd (upN n a d).natAbs (loD d) → x.length ≤ 2097152 ∧ y.length ≤ 2097152 := fun x y hx hy hv hu => reduced_len hx hy ha hd hl hl' (by omega) rfl hv hu
  obtain ⟨P, hP⟩ : ∃ P, upN n a d = P := ⟨_, rfl⟩
  obtain ⟨Q, hQ⟩ : ∃ Q, loD d = Q := ⟨_, rfl⟩
  simp only [hP, hQ] at cR hlen
  rw [hP, hQ]
  have HL := Lib.hid hlen
  clear hP hQ hlen
  go_enter Tryz.func44, Tryz.ntmps44
  go_wp2_with fail
  try rw [hW]
  clear hW
  refine cR.mono ?_
  rintro e w1 ⟨A1, x, cx, D1, y, cy, rfl, hcx, hcy, hnx, hny, hvx, hvy, r1, q1, b1⟩
  clear cR p0 p1 p2
  have K1 := k1.below b1 k1.lt
  obtain ⟨i0, i1, i2, j0, j1, j2⟩ := K1.facts
  obtain ⟨lx, ly⟩ := HL.out x y hnx hny hvx hvy
  obtain ⟨U, hU, u0, u1, u2, kU, bU, oU, sU⟩ := K1.three (.bool (decide (P < 0))) (.slice A1 x.length cx) (.slice D1 y.length cy)
  obtain ⟨V, hV, rV, bV, sV⟩ := one_word U 1 1 rfl
  have rU := r1.far3 K1 _ _ _ hU
  have qU := q1.far3 K1 _ _ _ hU
  have BV := ((b0.trans (b1.mono b0.size)).trans (bU w.heap.size (Nat.le_refl _))).trans (bV.mono (by have := b1.size; omega))
  have KV := kU.below bV kU.lt
  have rx := rU.on bV
  have qy := qU.on bV
  rw [sU] at rV
  have cS := ref_same_any y [1] D1 (some ⟨w1.heap.size, 0, none⟩) cy 1 _ _ V qy rV (by omega)
  have cN := fun (Z : World) (hZ : Below V.heap.size V Z) => ref2_Text (decide (P < 0)) x A1 cx Z (rx.on hZ) lx hnx.1
  have cD := fun (Z : World) (hZ : Below V.heap.size V Z) => ref_Text y D1 cy Z (qy.on hZ) ly hny.1
  rw [ftop_of hvx] at cN
  rw [hvy] at cD
  have lN : (wtext (ftop P Q)).length ≤ 4000000000000 := by
    have h1 := wtext_len (ftop P Q)
    rw [← ftop_of hvx, wv_abs] at h1
    have h2 := dec_len_words (val_lt hnx.1)
    rw [ftop_of hvx] at h1
    omega
  have lD : (Lib.decDigits (Q / Nat.gcd P.natAbs Q)).length ≤ 4000000000000 := by
    have h2 := dec_len_words (val_lt hny.1)
    rw [hvy] at h2
    omega
  simp only [List.length_singleton] at cS
  have hone := one_iff hny
  rw [hvy] at hone
  obtain ⟨N, hN⟩ : ∃ N, wtext (ftop P Q) = N := ⟨_, rfl⟩
  obtain ⟨M, hM⟩ : ∃ M, Lib.decDigits (Q / Nat.gcd P.natAbs Q) = M := ⟨_, rfl⟩
  have HF := Lib.hid (show ftext P Q = if Q / Nat.gcd P.natAbs Q = 1 then N else N ++ 47 :: M by rw [← hN, ← hM]; rfl)
  rw [hN] at lN
  rw [hM] at lD
  simp only [hN] at cN
  simp only [hM] at cD
  have CN := Lib.hid cN
  have CD := Lib.hid cD
  have HKV := Lib.hid KV
  have HBV := Lib.hid BV
  have HUV := Lib.hid (And.intro hU hV)
  have hlv := KV.lt
  clear cN cD hN hM rU qU rx qy rV r1 q1 bU oU sU K1 kU bV KV BV hvx hvy b1 b0 k1 hU hV h h' u0 u1 u2
  by_cases h1 : Q / Nat.gcd P.natAbs Q = 1
  · rw [decide_eq_true (hone.2 h1)] at cS
    have HT := Lib.hid (show ftext P Q = N by rw [HF.out, if_pos h1])
    clear hone h1 HF
    go_wp2_with fail
    rw [HUV.out.1, HUV.out.2]
    refine cS.mono ?_
    rintro e w2 ⟨rfl, m, rfl⟩
    have K0 := below_drewN (Below.refl V.heap.size V) m
    obtain ⟨x0, x1, x2⟩ := keep3 HKV.out K0
    clear cS i0 i1 i2 j0 j1 j2
    go_wp2_with fail
    refine (CN.out _ K0).mono ?_
    rintro e w3 ⟨rfl, b3⟩
    have B3 := HBV.out.trans ((below_next K0 (Nat.le_refl _) b3).mono HBV.out.size)
    go_wp2_with fail
    go_ret
    exact ⟨by rw [HT.out]; rfl, B3⟩
  · rw [decide_eq_false (fun h => h1 (hone.1 h))] at cS
    have HT := Lib.hid (show ftext P Q = N ++ 47 :: M by rw [HF.out, if_neg h1])
    clear hone h1 HF
    go_wp2_with fail
    rw [HUV.out.1, HUV.out.2]
    refine cS.mono ?_
    rintro e w2 ⟨rfl, m, rfl⟩
    have K0 := below_drewN (Below.refl V.heap.size V) m
    obtain ⟨x0, x1, x2⟩ := keep3 HKV.out K0
    have K0' : Below V.heap.size V (V.drewN (m + 1)) := below_drewN (Below.refl V.heap.size V) (m + 1)
    clear cS i0 i1 i2 j0 j1 j2
    go_wp2_with fail
    have hs1 : ¬ 9223372036854775807 < N.length + 1 := by omega
    have hs2 : ¬ 9223372036854775807 < N.length + 1 + M.length := by omega
    go_region_held3 (fun w' => w'.cell? ⟨w.heap.size, 0, none⟩ = some (.bool (decide (P < 0))) ∧ w'.cell? ⟨w.heap.size, 1, none⟩ = some (.slice A1 x.length cx) ∧ w'.cell? ⟨w.heap.size, 2, none⟩ = some (.slice D1 y.length cy))
      (first | (with_reducible exact keep3 HKV.out K0') | exact keep3 HKV.out K0' | (with_reducible exact keep3 HKV.out KA) | (with_reducible exact keep3 HKV.out KB) | go_keep)
      ((first
        | (go_at_call 89; (with_reducible refine Calls.mono (CN.out _ K0') ?_); rintro e w3 ⟨rfl, b3⟩; have KA := below_next K0' (Nat.le_refl _) b3)
        | (go_at_call 90; (with_reducible refine Calls.mono (CD.out _ KA) ?_); rintro e w4 ⟨rfl, b4⟩; have KB := below_next KA (Nat.le_refl _) b4)))
    all_goals
      have B3 := HBV.out.trans (KB.mono HBV.out.size)
      go_wp2_with fail
      go_ret
      exact ⟨by rw [HT.out, ← text_join]; rfl, B3⟩
end Go.Proofs.YtidbpkibjficnaaGreatDoor
