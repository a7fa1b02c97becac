/- The same, word by word, or not: the document's own. -/
import Derived.Test.YtokaapljlpngdaaGreatDoorZWrX
import Derived.Test.YtokaapljlpngdaaGreatDoorZFrZ
namespace Go.Proofs.YtokaapljlpngdaaGreatDoor
open Go.RowKit Num

set_option maxHeartbeats 800000 in
theorem ref_same_any (xs ys : List Nat) (A A' : Option Addr) (c c' : Nat) (S S' : Nat → Prop) (w : World) (h : Rd w S .u32 A xs) (h' : Rd w S' .u32 A' ys) (hl : xs.length ≤ 4611686018427387904) :
    Calls Tryz.prog 26 #[.slice A xs.length c, .slice A' ys.length c'] w fun e w' => e = .returned (.bool (decide (xs = ys))) ∧ ∃ m, w' = w.drewN m := by
  by_cases hlen : xs.length = ys.length
  · rw [← hlen]
    have HL := Lib.hid hlen
    clear hlen
    go_enter Tryz.func26, Tryz.ntmps26
    go_wp2
    go_loopg [5] xs.length (fun g i wr => ∃ k m, g + k = xs.length ∧ i = .int .i64 k ∧ wr = w.drewN m ∧ ∀ j, j < k → xs[j]? = ys[j]?)
    case atStart => exact ⟨0, 0, by omega, rfl, rfl, by omega⟩
    case round =>
      obtain ⟨k, m, hk, rfl, rfl, hj⟩ := hrel
      by_cases hlt : k < xs.length
      · have hlt' : k < ys.length := by have := HL.out; omega
        obtain ⟨b, o, rfl, hb, hc1⟩ := h.at_ hlt
        obtain ⟨b', o', rfl, hb', hc2⟩ := h'.at_ hlt'
        have ex : xs[k]? = some xs[k] := List.getElem?_eq_getElem hlt
        have ey : ys[k]? = some ys[k] := List.getElem?_eq_getElem hlt'
        obtain ⟨x, hx⟩ : ∃ x, xs[k] = x := ⟨_, rfl⟩
        obtain ⟨y, hy⟩ : ∃ y, ys[k] = y := ⟨_, rfl⟩
        rw [hx] at hc1 ex
        rw [hy] at hc2 ey
        have HK := Lib.hid hk
        have HJ := Lib.hid hj
        have EX := Lib.hid ex
        have EY := Lib.hid ey
        clear hx hy hk hj ex ey
        by_cases hxy : x = y
        · subst hxy
          go_wp2
          go_quiet (fail)
          go_wp2
          go_roundg (gk - 1)
          case measure => have := HK.out; omega
          case rel =>
            refine ⟨k + 1, m + nq, by have := HK.out; omega, by go_num, by simp, fun j hj => ?_⟩
            rcases Nat.lt_or_ge j k with h1 | h1
            · exact HJ.out j h1
            · obtain rfl : j = k := by omega
              rw [EX.out, EY.out]
        · have HN := Lib.hid (show xs ≠ ys from fun he => hxy (by have h1 := EX.out; rw [he, EY.out] at h1; exact (Option.some.inj h1).symm))
          have hxy1 : ((x : Int) == (y : Int)) = false := beq_eq_false_iff_ne.2 (by omega)
          go_wp2
          go_quiet (fail)
          go_wp2
          go_ret
          exact ⟨by rw [decide_eq_false HN.out]; rfl, m + nq, by simp⟩
      · have he : xs = ys := List.ext_getElem? fun j => by
          rcases Nat.lt_or_ge j k with h1 | h1
          · exact hj j h1
          · rw [List.getElem?_eq_none (by omega), List.getElem?_eq_none (by have := HL.out; omega)]
        have HE := Lib.hid he
        clear he hj
        go_wp2
        go_ret
        exact ⟨by rw [decide_eq_true HE.out]; rfl, m, rfl⟩
  · have HN := Lib.hid (show xs ≠ ys from fun he => hlen (by rw [he]))
    go_enter Tryz.func26, Tryz.ntmps26
    go_wp2
    go_ret
    exact ⟨by rw [decide_eq_false HN.out]; rfl, 0, rfl⟩

set_option maxHeartbeats 800000 in
theorem ref2_same_any (n1 n2 : Bool) (xs ys : List Nat) (A A' : Option Addr) (c c' : Nat) (w : World) (h : Rd w (fun g => g < w.heap.size) .u32 A xs) (h' : Rd w (fun g => g < w.heap.size) .u32 A' ys) (hl : xs.length ≤ 4611686018427387904) :
    Calls Tryz.prog 25 #[.agg #[.bool n1, .slice A xs.length c], .agg #[.bool n2, .slice A' ys.length c']] w fun e w' => e = .returned (.bool (decide (n1 = n2 ∧ xs = ys))) ∧ Below w.heap.size w w' := by
  have B0 := below_new2 w (.cells #[.bool n1, .slice A xs.length c] 27) (.cells #[.bool n2, .slice A' ys.length c'] 27)
  have cS := ref_same_any xs ys A A' c c' _ _ _ (h.on B0) (h'.on B0) hl
  by_cases hn : n1 = n2
  · subst hn
    obtain ⟨r, hr⟩ : ∃ r, decide (xs = ys) = r := ⟨_, rfl⟩
    rw [show decide (n1 = n1 ∧ xs = ys) = r by rw [← hr]; simp]
    rw [hr] at cS
    clear hr
    go_enter Tryz.func25, Tryz.ntmps25
    go_wp2_with fail
    refine cS.mono ?_
    rintro e w1 ⟨rfl, m, hw1⟩
    have B1 : Below w.heap.size w w1 := by rw [hw1]; exact below_drewN B0 m
    clear hw1 cS
    go_wp2_with fail
    go_ret
    exact ⟨rfl, B1⟩
  · have HN := Lib.hid hn
    have hnb : (n1 == n2) = false := by simpa using hn
    rw [decide_eq_false (fun h => HN.out h.1)]
    clear hn
    go_enter Tryz.func25, Tryz.ntmps25
    go_wp2_with fail
    go_ret
    exact ⟨rfl, B0⟩
end Go.Proofs.YtokaapljlpngdaaGreatDoor
/- Fractions, the document's own: what Same answers. -/

namespace Go.Proofs.YtokaapljlpngdaaGreatDoor
open Go.RowKit Num

set_option maxRecDepth 10000 in
set_option maxHeartbeats 1600000 in
theorem ref4_Same (n n' : Bool) (a d a' d' : List Nat) (A D A' D' : Option Addr) (ca cd ca' cd' : Nat) (w : World) (h1 : Rd w (fun g => g < w.heap.size) .u32 A a) (h2 : Rd w (fun g => g < w.heap.size) .u32 D d) (h3 : Rd w (fun g => g < w.heap.size) .u32 A' a') (h4 : Rd w (fun g => g < w.heap.size) .u32 D' d') (hl1 : a.length ≤ 4611686018427387904) (hl2 : d.length ≤ 4611686018427387904) :
    Calls Tryz.prog 15 #[.agg #[.bool n, .slice A a.length ca, .slice D d.length cd], .agg #[.bool n', .slice A' a'.length ca', .slice D' d'.length cd']] w fun e w' => e = .returned (.bool (decide ((n = n' ∧ a = a') ∧ d = d'))) ∧ Below w.heap.size w w' := by
  obtain ⟨W, hW, k1, k2, b0, s0⟩ := frac_pair w (.bool n) (.slice A a.length ca) (.slice D d.length cd) (.bool n') (.slice A' a'.length ca') (.slice D' d'.length cd')
  obtain ⟨p0, p1, p2, p3, p4, p5⟩ := k1.facts
  obtain ⟨z0, z1, z2, z3, z4, z5⟩ := k2.facts
  have c1 := fun (V : World) (hV : Below W.heap.size W V) => ref2_same_any n n' a a' A A' ca ca' V ((h1.on b0).on hV) ((h3.on b0).on hV) hl1
  have c2 := fun (V : World) (hV : Below W.heap.size W V) => ref_same_any d d' D D' cd cd' _ _ V ((h2.on b0).on hV) ((h4.on b0).on hV) hl2
  by_cases hx : n = n' ∧ a = a'
  · have HX : decide ((n = n' ∧ a = a') ∧ d = d') = decide (d = d') := by rw [decide_eq_decide]; exact ⟨fun h => h.2, fun h => ⟨hx, h⟩⟩
    rw [HX]
    simp only [decide_eq_true hx] at c1
    obtain ⟨r, hr⟩ : ∃ r, decide (d = d') = r := ⟨_, rfl⟩
    rw [hr]
    simp only [hr] at c2
    have C1 := Lib.hid c1
    have C2 := Lib.hid c2
    have HK1 := Lib.hid k1
    have HK2 := Lib.hid k2
    clear c1 c2 hr HX hx k1 k2
    go_enter Tryz.func15, Tryz.ntmps15
    go_wp2_with fail
    refine (C1.out W (Below.refl _ _)).mono ?_
    rintro e w1 ⟨rfl, b1⟩
    obtain ⟨x0, x1, x2⟩ := keep3 HK1.out b1
    obtain ⟨y0, y1, y2⟩ := keep3 HK2.out b1
    go_wp2_with fail
    refine (C2.out w1 b1).mono ?_
    rintro e w2 ⟨rfl, m, rfl⟩
    have B2 := b0.trans ((below_drewN b1 m).mono b0.size)
    go_wp2_with fail
    go_ret
    exact ⟨rfl, B2⟩
  · have HX : decide ((n = n' ∧ a = a') ∧ d = d') = false := decide_eq_false fun h => hx h.1
    rw [HX]
    simp only [decide_eq_false hx] at c1
    have C1 := Lib.hid c1
    clear c1 c2 HX hx
    go_enter Tryz.func15, Tryz.ntmps15
    go_wp2_with fail
    refine (C1.out W (Below.refl _ _)).mono ?_
    rintro e w1 ⟨rfl, b1⟩
    have B1 := b0.trans (b1.mono b0.size)
    go_wp2_with fail
    go_ret
    exact ⟨rfl, B1⟩
end Go.Proofs.YtokaapljlpngdaaGreatDoor
