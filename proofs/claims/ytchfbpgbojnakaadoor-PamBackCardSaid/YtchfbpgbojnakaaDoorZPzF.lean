/- Rasters: where two differ first, the program's own Differ. Written by gen/genpbd.py. -/
import Derived.Test.YtchfbpgbojnakaaDoorZPzE
import Derived.Test.YtchfbpgbojnakaaDoorZPzB
import Derived.Deep.QuietTactic
import Derived.BigQuiet
namespace Go.Proofs.YtchfbpgbojnakaaDoor
open Go.RowKit

set_option maxRecDepth 10000 in
set_option maxHeartbeats 3200000 in
theorem cols_Equal (a b : List Col) (p q : Option Addr) (c d : Nat) (w : World) (ha : RdV w w.heap.size p (rowCells a)) (hb : RdV w w.heap.size q (rowCells b)) (hl : a.length ≤ 4611686018427387904) :
    Calls Tryd.prog 28 #[.slice p a.length c, .slice q b.length d] w (TellsIt (a = b) w) := by
  by_cases h3 : a.length = b.length
  · obtain ⟨n, hn⟩ : ∃ n, a.length = n := ⟨_, rfl⟩
    have HA := Lib.hid hn
    have HB := Lib.hid (h3.symm.trans hn)
    rw [← h3, hn]
    rw [hn] at hl
    have HR := Lib.hid (And.intro ha hb)
    clear h3 hn ha hb
    go_enter Tryd.func28, Tryd.ntmps28
    go_wp2_with fail
    go_loopg [5, 13] n (fun gh _ it wr => ∃ i : Nat, it = .int .i64 (i : Int) ∧ gh + i = n ∧ a.take i = b.take i ∧ Below w.heap.size w wr)
    case atStart => exact ⟨0, rfl, by omega, rfl, Below.refl _ _⟩
    case round =>
      obtain ⟨i, rfl, hg, hs, hB⟩ := hrel
      by_cases hlt : i < n
      · obtain ⟨g, o, hp, hgl, e0, e1, e2, e3⟩ := (HR.out.1.below hB).col (i := i) (by rw [HA.out]; exact hlt)
        obtain ⟨g', o', hq, hgl', e0', e1', e2', e3'⟩ := (HR.out.2.below hB).col (i := i) (by rw [HB.out]; exact hlt)
        subst hp hq
        have HS := Lib.hid (And.intro hs hB)
        have HNX := Lib.hid (pix_step hs (by rw [HA.out]; exact hlt) (by rw [HB.out]; exact hlt))
        have HNO := Lib.hid (fun (h : ¬ a[i]'(by rw [HA.out]; exact hlt) = b[i]'(by rw [HB.out]; exact hlt)) => show ¬ a = b from fun e => h (by subst e; rfl))
        obtain ⟨x, hx⟩ : ∃ x, a[i]'(by rw [HA.out]; exact hlt) = x := ⟨_, rfl⟩
        obtain ⟨y, hy⟩ : ∃ y, b[i]'(by rw [HB.out]; exact hlt) = y := ⟨_, rfl⟩
        rw [hx] at e0 e1 e2 e3 HNX HNO
        rw [hy] at e0' e1' e2' e3' HNX HNO
        clear hs hB hx hy
        have hil : (i : Int) < (n : Int) := by omega
        by_cases r0 : x.r = y.r
        · skip
          by_cases r1 : x.g = y.g
          · skip
            by_cases r2 : x.b = y.b
            · skip
              by_cases r3 : x.a = y.a
              · skip
                obtain rfl : x = y := Col.same.2 ⟨r0, r1, r2, r3⟩
                have HX := Lib.hid (HNX.out rfl)
                clear HNX HNO r0 r1 r2 r3
                go_wp2_with fail
                go_quiet (fail)
                go_wp2_with fail
                go_roundg (n - (i + 1))
                case measure => omega
                case rel => exact ⟨i + 1, by simp, by omega, HX.out, below_figE HS.out.2 nq⟩
              · skip
                have r3' : ¬ (x.a.toNat : Int) = (y.a.toNat : Int) := fun e => r3 (UInt8.toNat_inj.1 (by omega))
                rw [r0] at e0
                rw [r1] at e1
                rw [r2] at e2
                go_wp2_with fail
                go_quiet (fail)
                go_wp2_with fail
                go_ret
                exact ⟨⟨false, rfl, by simp [HNO.out (fun e => r3 (by rw [e]))]⟩, below_figE HS.out.2 nq⟩
            · skip
              have r2' : ¬ (x.b.toNat : Int) = (y.b.toNat : Int) := fun e => r2 (UInt8.toNat_inj.1 (by omega))
              rw [r0] at e0
              rw [r1] at e1
              go_wp2_with fail
              go_quiet (fail)
              go_wp2_with fail
              go_ret
              exact ⟨⟨false, rfl, by simp [HNO.out (fun e => r2 (by rw [e]))]⟩, below_figE HS.out.2 nq⟩
          · skip
            have r1' : ¬ (x.g.toNat : Int) = (y.g.toNat : Int) := fun e => r1 (UInt8.toNat_inj.1 (by omega))
            rw [r0] at e0
            go_wp2_with fail
            go_quiet (fail)
            go_wp2_with fail
            go_ret
            exact ⟨⟨false, rfl, by simp [HNO.out (fun e => r1 (by rw [e]))]⟩, below_figE HS.out.2 nq⟩
        · skip
          have r0' : ¬ (x.r.toNat : Int) = (y.r.toNat : Int) := fun e => r0 (UInt8.toNat_inj.1 (by omega))
          go_wp2_with fail
          go_quiet (fail)
          go_wp2_with fail
          go_ret
          exact ⟨⟨false, rfl, by simp [HNO.out (fun e => r0 (by rw [e]))]⟩, below_figE HS.out.2 nq⟩
      · obtain rfl : i = n := by omega
        have HF := Lib.hid (And.intro (show a = b from pix_end hs HA.out HB.out) hB)
        clear hs hB
        go_wp2_with fail
        go_ret
        exact ⟨⟨true, rfl, by simp [HF.out.1]⟩, HF.out.2⟩
  · have h3' : ¬ (a.length : Int) = (b.length : Int) := by omega
    have HN := Lib.hid (show ¬ a = b from fun e => h3 (by rw [e]))
    clear ha hb
    go_enter Tryd.func28, Tryd.ntmps28
    go_wp2_with fail
    go_ret
    exact ⟨⟨false, rfl, by simp [HN.out]⟩, Below.refl _ _⟩

theorem cAt_eq {r : Ras} (hm : RMay r) {x y U T : Nat} (hU : r.w = U) (hT : r.h = T) (hx : x < U) (hy : y < T) : ∃ h : x + U * y < r.pix.length, cAt r x y = r.pix[x + U * y] := by
  obtain ⟨hi, he⟩ := atR_some hm (x := x) (y := y) ⟨by omega, by omega⟩ ⟨by omega, by omega⟩
  have e : ((x : Int) + r.w * (y : Int)).toNat = x + U * y := by
    rw [hU, show (x : Int) + (U : Int) * (y : Int) = ((x + U * y : Nat) : Int) by simp, Int.toNat_natCast]
  simp only [e] at hi he
  refine ⟨hi, ?_⟩
  unfold cAt
  rw [he]
  rfl
theorem seen_of {a b : Ras} (h : Alike a b) {U T i : Nat} (hU : a.w = U) (hT : a.h = T) (ht : a.pix.take i = b.pix.take i) {x y : Nat} (hx : x < U) (hy : y < T) (hi : x + U * y < i) : cAt a x y = cAt b x y := by
  obtain ⟨h1, e1⟩ := cAt_eq h.1 hU hT hx hy
  obtain ⟨h2, e2⟩ := cAt_eq h.2.1 (h.2.2.1 ▸ hU) (h.2.2.2 ▸ hT) hx hy
  rw [e1, e2]
  have e := congrArg (fun l => l[x + U * y]?) ht
  simp only [List.getElem?_take, if_pos hi, List.getElem?_eq_getElem h1, List.getElem?_eq_getElem h2] at e
  exact Option.some.inj e
theorem diff_some {a b : Ras} (h : Alike a b) {U T i : Nat} (hU : a.w = U) (hT : a.h = T) (ht : a.pix.take i = b.pix.take i) (hi : i < U * T) (hn : ∀ h1 h2, ¬ a.pix[i]'h1 = b.pix[i]'h2) : IsDiff a b (i % U : Nat) (i / U : Nat) true := by
  have hU0 : 0 < U := by have := h.1.1; omega
  have hX := Nat.mod_lt i hU0
  have hY : i / U < T := (Nat.div_lt_iff_lt_mul hU0).2 (by rw [Nat.mul_comm]; exact hi)
  have hXY : i % U + U * (i / U) = i := Nat.mod_add_div i U
  refine .inl ⟨rfl, i % U, i / U, rfl, rfl, by omega, by omega, ?_, ?_⟩
  · intro y x hxy
    rw [hU, Int.toNat_natCast] at hxy
    rcases hxy with ⟨hy, hx⟩ | ⟨rfl, hx⟩
    · refine seen_of h hU hT ht hx (by omega) ?_
      have h1 := Nat.mul_le_mul_left U (show y + 1 ≤ i / U by omega)
      rw [Nat.mul_succ] at h1
      omega
    · exact seen_of h hU hT ht (by omega) hY (by omega)
  · obtain ⟨h1, e1⟩ := cAt_eq h.1 hU hT hX hY
    obtain ⟨h2, e2⟩ := cAt_eq h.2.1 (h.2.2.1 ▸ hU) (h.2.2.2 ▸ hT) hX hY
    rw [e1, e2]
    simp only [hXY]
    exact hn _ _
theorem diff_none {a b : Ras} (h : Alike a b) {U T : Nat} (hU : a.w = U) (hT : a.h = T) (ht : a.pix.take (U * T) = b.pix.take (U * T)) : IsDiff a b 0 0 false := by
  refine .inr ⟨rfl, rfl, rfl, ?_⟩
  intro y x hxy
  rw [hU, hT, Int.toNat_natCast, Int.toNat_natCast] at hxy
  rcases hxy with ⟨hy, hx⟩ | ⟨_, hx⟩
  · refine seen_of h hU hT ht hx hy ?_
    have h1 := Nat.mul_le_mul_left U (show y + 1 ≤ T by omega)
    rw [Nat.mul_succ] at h1
    omega
  · omega

set_option maxRecDepth 10000 in
set_option maxHeartbeats 6400000 in
theorem pam_DifferOk (a b : Ras) (p q : Option Addr) (c d : Nat) (h : Alike a b) (w : World) (ha : RdV w w.heap.size p (rowCells a.pix)) (hb : RdV w w.heap.size q (rowCells b.pix)) :
    Calls Tryd.prog 21 #[rasV a p c, rasV b q d] w fun e w' => (∃ x y d, e = .returned (.tuple #[.int .i64 x, .int .i64 y, .bool d]) ∧ IsDiff a b x y d) ∧ Below w.heap.size w w' := by
  have hA2 := Lib.hid h
  obtain ⟨hA, hB, hw, hh⟩ := h
  have ok : ∀ r : Ras, RMay r → RasOk r := fun r hR => by obtain ⟨⟨a1, a2⟩, ⟨a3, a4⟩, a5⟩ := hR; have := side_mul ⟨a1, a2⟩ ⟨a3, a4⟩; exact ⟨⟨by omega, by omega⟩, ⟨by omega, by omega⟩, by omega⟩
  have cM := fun V => pam_May a p c (ok a hA) V
  have cN := fun V => pam_May b q d (ok b hB) V
  rw [show mayR a = true by simp [mayR, hA]] at cM
  rw [show mayR b = true by simp [mayR, hB]] at cN
  clear ok
  obtain ⟨W, hW, ⟨k1, k2⟩, B0⟩ := ras_two (w := w) a b p q c d
  obtain ⟨⟨a1, a2⟩, ⟨a3, a4⟩, al⟩ := hA
  have bl := hB.2.2
  clear hB
  rw [← hw, ← hh] at bl
  obtain ⟨U, hU⟩ : ∃ U : Nat, a.w = U := ⟨a.w.toNat, by omega⟩
  obtain ⟨T, hT⟩ : ∃ T : Nat, a.h = T := ⟨a.h.toNat, by omega⟩
  rw [hU, hT] at al bl
  obtain ⟨n, hn⟩ : ∃ n, U * T = n := ⟨_, rfl⟩
  have hni : (U : Int) * (T : Int) = (n : Int) := by rw [← hn]; simp
  rw [hni] at al bl
  have hUT : n ≤ 4096 := by
    have := Nat.mul_le_mul (show U ≤ 64 by omega) (show T ≤ 64 by omega)
    omega
  have al2 : a.pix.length = n := by omega
  have bl2 : b.pix.length = n := by omega
  have HSOME := Lib.hid (fun (i : Nat) (h1 : a.pix.take i = b.pix.take i) (h2 : i < n) (h3 : ∀ h1 h2, ¬ a.pix[i]'h1 = b.pix[i]'h2) => diff_some hA2.out hU hT h1 (by omega) h3)
  have HNONE := Lib.hid (fun (h1 : a.pix.take n = b.pix.take n) => diff_none hA2.out hU hT (by rw [hn]; exact h1))
  have HL := Lib.hid (And.intro al2 bl2)
  have HN := Lib.hid (And.intro hn hni)
  replace ha := Lib.hid (And.intro ha hb)
  unfold rasV at *
  rw [← hw, ← hh] at hW k2 cN ⊢
  rw [hU, hT, al2] at hW k1 cM
  rw [hU, hT, bl2] at cN
  rw [hU, hT, bl2] at k2
  rw [bl2] at hW
  rw [hU, hT, al2, bl2]
  rw [hU] at a1 a2
  rw [hT] at a3 a4
  clear hw hh hU hT al bl al2 bl2 hb hn hni
  replace cM := Lib.hid cM
  replace cN := Lib.hid cN
  have HK := Lib.hid (And.intro (And.intro k1 k2) B0)
  obtain ⟨z0, z1, z2⟩ := Box.three k1
  obtain ⟨y0, y1, y2⟩ := Box.three k2
  clear k1 k2 B0
  go_enter Tryd.func21, Tryd.ntmps21
  go_wp2_with first
    | (go_at_call 17; with_reducible refine Calls.mono (cM.out _) ?_; rintro e w1 ⟨rfl, b1⟩
       have hk1 := Lib.hid (HK.out.1.1.below b1 HK.out.1.1.lt)
       have hk2 := Lib.hid (HK.out.1.2.below b1 HK.out.1.2.lt)
       have hk3 := Lib.hid (HK.out.2.trans (b1.mono HK.out.2.size))
       clear b1 z0 z1 z2 y0 y1 y2
       obtain ⟨z0, z1, z2⟩ := Box.three hk1.out
       obtain ⟨y0, y1, y2⟩ := Box.three hk2.out)
    | (go_at_call 17; with_reducible refine Calls.mono (cN.out _) ?_; rintro e w2 ⟨rfl, b2⟩
       replace hk1 := Lib.hid (hk1.out.below b2 hk1.out.lt)
       replace hk2 := Lib.hid (hk2.out.below b2 hk2.out.lt)
       replace hk3 := Lib.hid (hk3.out.trans (b2.mono hk3.out.size))
       clear b2 z0 z1 z2 y0 y1 y2
       obtain ⟨z0, z1, z2⟩ := Box.three hk1.out
       obtain ⟨y0, y1, y2⟩ := Box.three hk2.out)
  clear cM cN z0 z1 z2 y0 y1 y2 hW
  go_loopg [8, 9, 47] n (fun gh _ _ it wr => ∃ i : Nat, it = .int .i64 (i : Int) ∧ gh + i = n ∧ a.pix.take i = b.pix.take i ∧ Below w2.heap.size w2 wr)
  case atStart => exact ⟨0, rfl, by omega, rfl, Below.refl _ _⟩
  case round =>
    obtain ⟨i, rfl, hg, hs, hB⟩ := hrel
    obtain ⟨z0, z1, z2⟩ := Box.three (hk1.out.below hB hk1.out.lt)
    by_cases hlt : i < n
    · have hB0 := hk3.out.trans (hB.mono hk3.out.size)
      obtain ⟨g, o, hp, hgl, e0, e1, e2, e3⟩ := (ha.out.1.below hB0).col (i := i) (by rw [HL.out.1]; exact hlt)
      obtain ⟨g', o', hq, hgl', e0', e1', e2', e3'⟩ := (ha.out.2.below hB0).col (i := i) (by rw [HL.out.2]; exact hlt)
      subst hp hq
      have HNX := Lib.hid (pix_step hs (by rw [HL.out.1]; exact hlt) (by rw [HL.out.2]; exact hlt))
      have HNO := Lib.hid (fun (h : ¬ a.pix[i]'(by rw [HL.out.1]; exact hlt) = b.pix[i]'(by rw [HL.out.2]; exact hlt)) => HSOME.out i hs hlt (fun _ _ => h))
      obtain ⟨x, hx⟩ : ∃ x, a.pix[i]'(by rw [HL.out.1]; exact hlt) = x := ⟨_, rfl⟩
      obtain ⟨y, hy⟩ : ∃ y, b.pix[i]'(by rw [HL.out.2]; exact hlt) = y := ⟨_, rfl⟩
      rw [hx] at e0 e1 e2 e3 HNX HNO
      rw [hy] at e0' e1' e2' e3' HNX HNO
      have hil : (i : Int) < (n : Int) := by omega
      have hU0 : ¬ (U : Int) = 0 := by omega
      obtain ⟨Q, hQ⟩ : ∃ Q, i / U = Q := ⟨_, rfl⟩
      obtain ⟨R, hR⟩ : ∃ R, i % U = R := ⟨_, rfl⟩
      have hQi : (i : Int) / (U : Int) = (Q : Int) := by rw [← hQ]; simp
      have hRi : (i : Int) % (U : Int) = (R : Int) := by rw [← hR]; simp
      have hQw : IntKind.i64.wrap (Q : Int) = (Q : Int) := IntWalk.i64_in _ (by have := Nat.div_le_self i U; omega)
      rw [hQ, hR] at HNO
      clear hQ hR
      obtain ⟨W3, hW3⟩ : ∃ W3, wr.alloc (.cells #[.int .u8 (x.r.toNat : Int), .int .u8 (x.g.toNat : Int), .int .u8 (x.b.toNat : Int), .int .u8 (x.a.toNat : Int)] 41) = W3 := ⟨_, rfl⟩
      have k9 : Box W3 wr.heap.size 41 [.int .u8 (x.r.toNat : Int), .int .u8 (x.g.toNat : Int), .int .u8 (x.b.toNat : Int), .int .u8 (x.a.toNat : Int)] := by rw [← hW3]; exact Box.new wr 41 [.int .u8 (x.r.toNat : Int), .int .u8 (x.g.toNat : Int), .int .u8 (x.b.toNat : Int), .int .u8 (x.a.toNat : Int)]
      have B3 : Below w2.heap.size w2 W3 := by rw [← hW3]; exact hB.alloc hB.size _
      obtain ⟨⟨c0, c1, c2, c3⟩, -⟩ := Box.four k9
      obtain ⟨x0, x1, x2⟩ := Box.three (hk1.out.below B3 hk1.out.lt)
      obtain ⟨y0, y1, y2⟩ := Box.three (hk2.out.below B3 hk2.out.lt)
      have hin : ∀ k : Nat, wr.cell? ⟨g', k, none⟩ = W3.cell? ⟨g', k, none⟩ := fun k => by
        have h1 := (hk3.out.trans (hB.mono hk3.out.size)).cell (p := ⟨g', k, none⟩) hgl'
        have h2 := (hk3.out.trans (B3.mono hk3.out.size)).cell (p := ⟨g', k, none⟩) hgl'
        rw [h1, h2]
      rw [hin] at e0' e1' e2' e3'
      have HS := Lib.hid (And.intro hs (hk3.out.trans (B3.mono hk3.out.size)))
      have HB3 := Lib.hid B3
      clear hs hB hx hy k9 B3 hin
      by_cases r0 : x.r = y.r
      · skip
        by_cases r1 : x.g = y.g
        · skip
          by_cases r2 : x.b = y.b
          · skip
            by_cases r3 : x.a = y.a
            · skip
              obtain rfl : x = y := Col.same.2 ⟨r0, r1, r2, r3⟩
              have HX := Lib.hid (HNX.out rfl)
              clear HNX HNO r0 r1 r2 r3
              go_wp2_with fail
              clear hW3
              go_quiet (fail)
              go_wp2_with fail
              go_roundg (n - (i + 1))
              case measure => omega
              case rel => exact ⟨i + 1, by simp, by omega, HX.out, below_figE HB3.out nq⟩
            · skip
              have r3' : ¬ (x.a.toNat : Int) = (y.a.toNat : Int) := fun e => r3 (UInt8.toNat_inj.1 (by omega))
              rw [r0] at e0 c0 hW3
              rw [r1] at e1 c1 hW3
              rw [r2] at e2 c2 hW3
              have HZ := Lib.hid (HNO.out (fun e => r3 (by rw [e])))
              clear HNO HNX
              go_wp2_with fail
              clear hW3
              go_quiet (fail)
              go_wp2_with fail
              go_quiet (fail)
              go_wp2_with fail
              go_ret3
              exact ⟨⟨_, _, true, rfl, by rw [hRi]; exact HZ.out⟩, below_figE (below_figE HS.out.2 _) _⟩
          · skip
            have r2' : ¬ (x.b.toNat : Int) = (y.b.toNat : Int) := fun e => r2 (UInt8.toNat_inj.1 (by omega))
            rw [r0] at e0 c0 hW3
            rw [r1] at e1 c1 hW3
            have HZ := Lib.hid (HNO.out (fun e => r2 (by rw [e])))
            clear HNO HNX
            go_wp2_with fail
            clear hW3
            go_quiet (fail)
            go_wp2_with fail
            go_quiet (fail)
            go_wp2_with fail
            go_ret3
            exact ⟨⟨_, _, true, rfl, by rw [hRi]; exact HZ.out⟩, below_figE (below_figE HS.out.2 _) _⟩
        · skip
          have r1' : ¬ (x.g.toNat : Int) = (y.g.toNat : Int) := fun e => r1 (UInt8.toNat_inj.1 (by omega))
          rw [r0] at e0 c0 hW3
          have HZ := Lib.hid (HNO.out (fun e => r1 (by rw [e])))
          clear HNO HNX
          go_wp2_with fail
          clear hW3
          go_quiet (fail)
          go_wp2_with fail
          go_quiet (fail)
          go_wp2_with fail
          go_ret3
          exact ⟨⟨_, _, true, rfl, by rw [hRi]; exact HZ.out⟩, below_figE (below_figE HS.out.2 _) _⟩
      · skip
        have r0' : ¬ (x.r.toNat : Int) = (y.r.toNat : Int) := fun e => r0 (UInt8.toNat_inj.1 (by omega))
        have HZ := Lib.hid (HNO.out (fun e => r0 (by rw [e])))
        clear HNO HNX
        go_wp2_with fail
        clear hW3
        go_quiet (fail)
        go_wp2_with fail
        go_quiet (fail)
        go_wp2_with fail
        go_ret3
        exact ⟨⟨_, _, true, rfl, by rw [hRi]; exact HZ.out⟩, below_figE (below_figE HS.out.2 _) _⟩
    · obtain rfl : i = n := by omega
      have HF := Lib.hid (And.intro (HNONE.out hs) (hk3.out.trans (hB.mono hk3.out.size)))
      clear hs hB
      go_wp2_with fail
      go_ret3
      exact ⟨⟨0, 0, false, rfl, HF.out.1⟩, HF.out.2⟩
end Go.Proofs.YtchfbpgbojnakaaDoor
/- Rasters: where two differ first, the program's own Differ: where they are not alike. Written by gen/genpbd2.py. -/

namespace Go.Proofs.YtchfbpgbojnakaaDoor
open Go.RowKit

set_option maxRecDepth 10000 in
set_option maxHeartbeats 6400000 in
theorem pam_DifferNo (a b : Ras) (p q : Option Addr) (c d : Nat) (hA : RasOk a) (hB : RasOk b) (h : ¬ Alike a b) (w : World) (ha : RdV w w.heap.size p (rowCells a.pix)) (hb : RdV w w.heap.size q (rowCells b.pix)) :
    Calls Tryd.prog 21 #[rasV a p c, rasV b q d] w fun e w' => (∃ d, e = .returned (.tuple #[.int .i64 0, .int .i64 0, .bool d]) ∧ (d = true ↔ ¬ a = b)) ∧ Below w.heap.size w w' := by
  have cM := fun V => pam_May a p c hA V
  have cN := fun V => pam_May b q d hB V
  have cS := Lib.hid (fun V h1 h2 => cols_Equal a.pix b.pix p q c d V h1 h2 hA.2.2)
  obtain ⟨W, hW, ⟨k1, k2⟩, B0⟩ := ras_two (w := w) a b p q c d
  replace ha := Lib.hid (And.intro ha hb)
  have HK := Lib.hid (And.intro (And.intro k1 k2) B0)
  obtain ⟨z0, z1, z2⟩ := Box.three k1
  obtain ⟨y0, y1, y2⟩ := Box.three k2
  clear k1 k2 B0 hb hA hB
  unfold TellsIt at cS
  unfold rasV at *
  by_cases h3 : a.w = b.w
  · by_cases h4 : a.h = b.h
    · have HE := Lib.hid (show (a = b) = (a.pix = b.pix) from propext (Ras.same.trans ⟨fun h => h.2.2, fun h => ⟨h3, h4, h⟩⟩))
      rw [← h3] at hW HK cN y0 ⊢
      rw [← h4] at hW HK cN y1 ⊢
      by_cases h1 : RMay a
      · rw [show mayR a = true by simp [mayR, h1]] at cM
        have h2 : ¬ RMay b := fun h2 => h ⟨h1, h2, h3, h4⟩
        rw [show mayR b = false by simp [mayR, h2]] at cN
        replace cM := Lib.hid cM
        replace cN := Lib.hid cN
        clear h h1 h2 h3 h4
        go_enter Tryd.func21, Tryd.ntmps21
        go_wp2_with first
          | (go_at_call 17; with_reducible refine Calls.mono (cM.out _) ?_; rintro e w1 ⟨rfl, b1⟩
             have hk1 := Lib.hid (HK.out.1.1.below b1 HK.out.1.1.lt)
             have hk2 := Lib.hid (HK.out.1.2.below b1 HK.out.1.2.lt)
             have hk3 := Lib.hid (HK.out.2.trans (b1.mono HK.out.2.size))
             clear b1 z0 z1 z2 y0 y1 y2
             obtain ⟨z0, z1, z2⟩ := Box.three hk1.out
             obtain ⟨y0, y1, y2⟩ := Box.three hk2.out)
          | (go_at_call 17; with_reducible refine Calls.mono (cN.out _) ?_; rintro e w2 ⟨rfl, b2⟩
             replace hk1 := Lib.hid (hk1.out.below b2 hk1.out.lt)
             replace hk2 := Lib.hid (hk2.out.below b2 hk2.out.lt)
             replace hk3 := Lib.hid (hk3.out.trans (b2.mono hk3.out.size))
             clear b2 z0 z1 z2 y0 y1 y2
             obtain ⟨z0, z1, z2⟩ := Box.three hk1.out
             obtain ⟨y0, y1, y2⟩ := Box.three hk2.out)
          | (go_at_call 28; with_reducible refine Calls.mono (cS.out _ ((ha.out.1.below hk3.out).mono hk3.out.size) ((ha.out.2.below hk3.out).mono hk3.out.size)) ?_; rintro e w3 ⟨⟨t, rfl, ht⟩, b3⟩; replace ht := Lib.hid ht)
        go_ret3
        exact ⟨⟨_, rfl, by rw [HE.out]; have := ht.out; cases t <;> simp_all⟩, hk3.out.trans (b3.mono hk3.out.size)⟩
      · rw [show mayR a = false by simp [mayR, h1]] at cM
        replace cM := Lib.hid cM
        replace cN := Lib.hid cN
        clear h h1 h3 h4
        go_enter Tryd.func21, Tryd.ntmps21
        go_wp2_with first
          | (go_at_call 17; with_reducible refine Calls.mono (cM.out _) ?_; rintro e w1 ⟨rfl, b1⟩
             have hk1 := Lib.hid (HK.out.1.1.below b1 HK.out.1.1.lt)
             have hk2 := Lib.hid (HK.out.1.2.below b1 HK.out.1.2.lt)
             have hk3 := Lib.hid (HK.out.2.trans (b1.mono HK.out.2.size))
             clear b1 z0 z1 z2 y0 y1 y2
             obtain ⟨z0, z1, z2⟩ := Box.three hk1.out
             obtain ⟨y0, y1, y2⟩ := Box.three hk2.out)
          | (go_at_call 17; with_reducible refine Calls.mono (cN.out _) ?_; rintro e w2 ⟨rfl, b2⟩
             replace hk1 := Lib.hid (hk1.out.below b2 hk1.out.lt)
             replace hk2 := Lib.hid (hk2.out.below b2 hk2.out.lt)
             replace hk3 := Lib.hid (hk3.out.trans (b2.mono hk3.out.size))
             clear b2 z0 z1 z2 y0 y1 y2
             obtain ⟨z0, z1, z2⟩ := Box.three hk1.out
             obtain ⟨y0, y1, y2⟩ := Box.three hk2.out)
          | (go_at_call 28; with_reducible refine Calls.mono (cS.out _ ((ha.out.1.below hk3.out).mono hk3.out.size) ((ha.out.2.below hk3.out).mono hk3.out.size)) ?_; rintro e w3 ⟨⟨t, rfl, ht⟩, b3⟩; replace ht := Lib.hid ht)
        go_ret3
        exact ⟨⟨_, rfl, by rw [HE.out]; have := ht.out; cases t <;> simp_all⟩, hk3.out.trans (b3.mono hk3.out.size)⟩
    · have HNE := Lib.hid (show ¬ a = b from fun e => h4 (by rw [e]))
      rw [← h3] at hW HK y0 ⊢
      clear h3 cN
      replace cM := Lib.hid cM
      clear h
      go_enter Tryd.func21, Tryd.ntmps21
      go_wp2_with fail
      go_ret3
      exact ⟨⟨_, rfl, by simp [HNE.out]⟩, HK.out.2⟩
  · have HNE := Lib.hid (show ¬ a = b from fun e => h3 (by rw [e]))
    replace cM := Lib.hid cM
    replace cN := Lib.hid cN
    clear h
    go_enter Tryd.func21, Tryd.ntmps21
    go_wp2_with fail
    go_ret3
    exact ⟨⟨_, rfl, by simp [HNE.out]⟩, HK.out.2⟩

theorem pam_Differ (a b : Ras) (p q : Option Addr) (c d : Nat) (hA : RasOk a) (hB : RasOk b) (w : World) (ha : RdV w w.heap.size p (rowCells a.pix)) (hb : RdV w w.heap.size q (rowCells b.pix)) :
    Calls Tryd.prog 21 #[rasV a p c, rasV b q d] w fun e w' => (∃ x y d, e = .returned (.tuple #[.int .i64 x, .int .i64 y, .bool d]) ∧ IsDiffer a b x y d) ∧ Below w.heap.size w w' := by
  by_cases h : Alike a b
  · refine (pam_DifferOk a b p q c d h w ha hb).mono ?_
    rintro e w' ⟨⟨x, y, t, rfl, ht⟩, hB2⟩
    exact ⟨⟨x, y, t, rfl, .inl ⟨h, ht⟩⟩, hB2⟩
  · refine (pam_DifferNo a b p q c d hA hB h w ha hb).mono ?_
    rintro e w' ⟨⟨t, rfl, ht⟩, hB2⟩
    exact ⟨⟨0, 0, t, rfl, .inr ⟨h, rfl, rfl, ht⟩⟩, hB2⟩
end Go.Proofs.YtchfbpgbojnakaaDoor
