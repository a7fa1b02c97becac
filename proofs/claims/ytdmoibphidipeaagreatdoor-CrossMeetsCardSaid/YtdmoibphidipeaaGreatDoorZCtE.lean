/- The law CrossMeets: its walk. -/
import Derived.Test.YtdmoibphidipeaaGreatDoorZCtB
import Derived.Test.YtdmoibphidipeaaGreatDoorZCtC
import Derived.Test.YtdmoibphidipeaaGreatDoorZCuX
import Derived.Deep.RegionHeld3
import Derived.Deep.RegionWith
namespace Go.Proofs.YtdmoibphidipeaaGreatDoor
open Go.RowKit Num rows

set_option maxRecDepth 100000 in
set_option maxHeartbeats 12800000 in
theorem walk_CrossMeets (a b c d : Pt) (w : World) (htab : Tab w) :
    Calls Tryz.prog 3 #[segV a b, segV c d] w fun e w' => e = .returned (.bool true) ∧ Below w.heap.size w w' := by
  obtain ⟨W, hW, k1, k2, bW, sW⟩ := seg_boxes w a b c d
  have cM := fun V => cross_Meet a b c d V
  have cN := fun V => ref17_Meet a b c d V
  have cX := fun V => cross_Cross a b c d V
  have cY := fun V => ref17_Cross a b c d V
  have cL := fun V (h : Tab V) => law17_lives V h
  have CSM := Lib.hid (fun (xs ys : List Sp) (R : List Qp) p q k1 k2 V hx hy rx ry hl => ref17_Same xs ys R p q k1 k2 V hx hy rx ry hl)
  unfold segCells at k1 k2
  have HK := Lib.hid (And.intro k1 (And.intro k2 bW))
  have HT := Lib.hid htab
  unfold segV at *
  have CM := Lib.hid cM
  have CN := Lib.hid cN
  have CX := Lib.hid cX
  have CY := Lib.hid cY
  have CL := Lib.hid cL
  have HS := Lib.hid (show ∀ w', Below W.heap.size W w' → (w'.cell? ⟨w.heap.size, 0, none⟩ = some (.int .i64 a.x) ∧ w'.cell? ⟨w.heap.size, 1, none⟩ = some (.int .i64 a.y) ∧ w'.cell? ⟨w.heap.size, 2, none⟩ = some (.int .i64 b.x) ∧ w'.cell? ⟨w.heap.size, 3, none⟩ = some (.int .i64 b.y)) ∧ (w'.cell? ⟨w.heap.size + 1, 0, none⟩ = some (.int .i64 c.x) ∧ w'.cell? ⟨w.heap.size + 1, 1, none⟩ = some (.int .i64 c.y) ∧ w'.cell? ⟨w.heap.size + 1, 2, none⟩ = some (.int .i64 d.x) ∧ w'.cell? ⟨w.heap.size + 1, 3, none⟩ = some (.int .i64 d.y)) from fun w' hb => ⟨Box.quad (HK.out.1.below hb HK.out.1.lt), Box.quad (HK.out.2.1.below hb HK.out.2.1.lt)⟩)
  have K0 : Below W.heap.size W W.drew := (Below.refl _ _).drew
  clear k1 k2 bW sW cM cN cX cY cL htab
  go_enter Tryz.func3, Tryz.ntmps3
  go_wp2_with (rw [hW])
  go_region_held3 (fun w' => (w'.cell? ⟨w.heap.size, 0, none⟩ = some (.int .i64 a.x) ∧ w'.cell? ⟨w.heap.size, 1, none⟩ = some (.int .i64 a.y) ∧ w'.cell? ⟨w.heap.size, 2, none⟩ = some (.int .i64 b.x) ∧ w'.cell? ⟨w.heap.size, 3, none⟩ = some (.int .i64 b.y)) ∧ (w'.cell? ⟨w.heap.size + 1, 0, none⟩ = some (.int .i64 c.x) ∧ w'.cell? ⟨w.heap.size + 1, 1, none⟩ = some (.int .i64 c.y) ∧ w'.cell? ⟨w.heap.size + 1, 2, none⟩ = some (.int .i64 d.x) ∧ w'.cell? ⟨w.heap.size + 1, 3, none⟩ = some (.int .i64 d.y)))
    (first | (with_reducible exact HS.out _ K0) | (with_reducible exact HS.out _ K1) | (with_reducible exact HS.out _ K2) | (with_reducible exact HS.out _ K3) | (with_reducible exact HS.out _ K4) | (with_reducible exact HS.out _ K5) | (with_reducible exact HS.out _ K6))
    ((first
      | (go_at_call 10; (with_reducible refine Calls.mono (CM.out _) ?_); rintro e v1 ⟨pX, capX, xs, R, rfl, hcX, hrX, hwX, hmX, b1⟩; have K1 := below_next K0 (Nat.le_refl _) b1; have HX := Lib.hid (And.intro hrX (And.intro hwX hmX)); clear hcX hrX hwX hmX b1)
      | (go_at_call 11; (with_reducible refine Calls.mono (CN.out _) ?_); rintro e v2 ⟨pY, capY, ys, R2, rfl, hcY, hrY, hwY, hmY, b2⟩; have K2 := below_next K1 (Nat.le_refl _) b2; obtain rfl := HX.out.2.2.unique hmY; have HY := Lib.hid (And.intro (HX.out.1.on b2) (And.intro hrY (And.intro (HX.out.2.1.on b2) hwY))); have hl2 : R.length ≤ 1073741824 := Nat.le_trans hmY.le (by omega); clear hcY hrY hwY hmY b2)
      | (go_at_call 9; (with_reducible refine Calls.mono (CSM.out xs ys R _ _ _ _ v2 HY.out.1 HY.out.2.1 HY.out.2.2.1 HY.out.2.2.2 hl2) ?_); rintro e v3 ⟨rfl, b3⟩; have K3 := below_next K2 (Nat.le_refl _) b3)
      | (go_at_call 12; (with_reducible refine Calls.mono (CX.out _) ?_); rintro e v4 ⟨r1, rfl, h1, b4⟩; have K4 := below_next K3 (Nat.le_refl _) b4; have H1 := Lib.hid h1; clear h1)
      | (go_at_call 13; (with_reducible refine Calls.mono (CY.out _) ?_); rintro e v5 ⟨r2, rfl, h2, b5⟩; have K5 := below_next K4 (Nat.le_refl _) b5; obtain rfl : r1 = r2 := Bool.eq_iff_iff.2 (H1.out.trans h2.symm); clear h2)
      | (go_at_call 14; (with_reducible refine Calls.mono (CL.out _ (HT.out.on (HK.out.2.2.trans (K5.mono HK.out.2.2.size)))) ?_); rintro e v6 ⟨rfl, b6⟩; have K6 := below_next K5 (Nat.le_refl _) b6)))
  have HK6 := Lib.hid K6
  go_wp2_with fail
  go_ret
  exact ⟨rfl, HK.out.2.2.trans (HK6.out.mono HK.out.2.2.size)⟩
end Go.Proofs.YtdmoibphidipeaaGreatDoor
