/- The law CrossBoth: its walk. -/
import Derived.Test.YtdmoibphidipeaaGreatDoorZCtC
import Derived.Deep.RegionHeld3
import Derived.Deep.RegionWith
namespace Go.Proofs.YtdmoibphidipeaaGreatDoor
open Go.RowKit Num rows
open Go.Sort (grow)

set_option maxRecDepth 100000 in
set_option maxHeartbeats 25600000 in
theorem walk_CrossBoth (a b c d : Pt) (w : World) (htab : Tab w) :
    Calls Tryz.prog 5 #[segV a b, segV c d] w fun e w' => e = .returned (.bool true) ∧ Below w.heap.size w w' := by
  obtain ⟨W, hW, k1, k2, bW, sW⟩ := seg_boxes w a b c d
  have cM := fun V => cross_Meet a b c d V
  have cN := fun V => cross_Meet c d a b V
  have cO := fun V => cross_Meet b a c d V
  have cL := fun V (h : Tab V) => law17_lives V h
  have CSM := Lib.hid (fun (xs ys : List Sp) (R : List Qp) p q k1 k2 V hx hy rx ry hl => ref17_Same xs ys R p q k1 k2 V hx hy rx ry hl)
  unfold segCells at k1 k2
  have HK := Lib.hid (And.intro k1 (And.intro k2 bW))
  have HT := Lib.hid htab
  obtain ⟨p0, p1, p2, p3⟩ := Box.quad k1
  obtain ⟨q0, q1, q2, q3⟩ := Box.quad k2
  unfold segV at *
  have CM := Lib.hid cM
  have CN := Lib.hid cN
  have CO := Lib.hid cO
  have CL := Lib.hid cL
  clear k1 k2 bW sW cM cN cO cL htab
  go_enter Tryz.func5, Tryz.ntmps5
  go_wp2_with first
    | (rw [hW])
    | (go_at_call 10; (with_reducible refine Calls.mono (CM.out _) ?_); rintro e w1 ⟨pX, cap, xs, R, rfl, hc, hr, hw, hm, bz⟩
       obtain ⟨W1, hW1⟩ : ∃ W1, w1.alloc (.cells #[.int .i64 b.x, .int .i64 b.y, .int .i64 a.x, .int .i64 a.y] 25) = W1 := ⟨_, rfl⟩
       have bn : Below w1.heap.size w1 W1 := by rw [← hW1]; exact (Below.refl _ _).alloc (Nat.le_refl _) _
       have kB : Box W1 w1.heap.size 25 [.int .i64 b.x, .int .i64 b.y, .int .i64 a.x, .int .i64 a.y] := by rw [← hW1]; exact Box.new w1 _ [.int .i64 b.x, .int .i64 b.y, .int .i64 a.x, .int .i64 a.y]
       have B1 : Below W.heap.size W W1 := bz.trans (bn.mono bz.size)
       have HR := Lib.hid (And.intro (hr.on bn) (And.intro (hw.on bn) (And.intro hm (And.intro kB B1))))
       have HLN := Lib.hid (And.intro hw.length (show R.length ≤ 2 from by
         by_cases hf : (FitP a ∧ FitP b) ∧ FitP c ∧ FitP d
         · exact (hm.1 hf).le
         · rw [hm.2 hf]; simp))
       clear p0 p1 p2 p3 q0 q1 q2 q3
       obtain ⟨p0, p1, p2, p3⟩ := Box.quad (HK.out.1.below bz HK.out.1.lt)
       clear hr hw hm bn kB B1)
    | (rw [hW1])
  clear p0 p1 p2 p3
  go_loopg [7] xs.length (fun gh v7 wr => ∃ i : Nat, v7 = .int .i64 i ∧ gh + i = xs.length ∧ Below W1.heap.size W1 wr)
  case atStart => exact ⟨0, rfl, rfl, Below.refl _ _⟩
  case round =>
    obtain ⟨i, rfl, hg, hbl⟩ := hrel
    have HG := Lib.hid hg
    clear hg
    by_cases hi : i < xs.length
    · have hiR : i < R.length := by have := HLN.out.1; omega
      have hii : (i : Int) < xs.length := by omega
      have hii2 : (0 : Int) ≤ (i : Int) ∧ (i : Int) < xs.length := by omega
      have htn : (i : Int).toNat = i := by omega
      have hwi : IntKind.i64.wrap ((i : Int) + 1) = (i : Int) + 1 := IntWalk.i64_in _ (by have := HLN.out.1; have := HLN.out.2; omega)
      obtain ⟨ka1, ka2, ka3⟩ := HR.out.2.1.get i hi hiR
      obtain ⟨bX, oX, rfl, hbX, hcX⟩ := HR.out.1 (by omega)
      have hf : (FitP a ∧ FitP b) ∧ FitP c ∧ FitP d := Classical.byContradiction fun hn => by
        have := HR.out.2.2.1.2 hn
        rw [this] at hiR
        simp at hiR
      have hboth := (HR.out.2.2.1.1 hf).on _ (List.getElem_mem hiR)
      rw [← ka3] at hboth
      have HCX := Lib.hid (And.intro hbX (hcX i hi))
      obtain ⟨sX, hsX⟩ : ∃ s, xs[i] = s := ⟨_, rfl⟩
      rw [hsX] at ka1 ka2 ka3 hboth HCX
      have cs := fun V (hV : Below W1.heap.size W1 V) => spot_SideW a b hf.1.1 hf.1.2 sX ka1 hboth.1.1 V (ka2.on hV)
      have ct := fun V (hV : Below W1.heap.size W1 V) => spot_SideW c d hf.2.1 hf.2.2 sX ka1 hboth.2.1 V (ka2.on hV)
      have ca := fun V => ref5_AtW a hf.1.1 V
      have cb := fun V => ref5_AtW b hf.1.2 V
      have cc := fun V => ref5_AtW c hf.2.1 V
      have cd := fun V => ref5_AtW d hf.2.2 V
      have co := fun (s t : Sp) V (hV : Below W1.heap.size W1 V) (hs : s.Red 8) (es : sw s = qAt a) (ht : t.Red 8) (et : sw t = qAt b) os ot => spot_OnW (M := 16) (by omega) (by omega) s t sX (hs.wide (by omega)) (ht.wide (by omega)) ka1 true ⟨fun _ => by rw [es, et]; exact hboth.1, fun _ => rfl⟩ V os ot (ka2.on hV)
      have cp := fun (s t : Sp) V (hV : Below W1.heap.size W1 V) (hs : s.Red 8) (es : sw s = qAt c) (ht : t.Red 8) (et : sw t = qAt d) os ot => spot_OnW (M := 16) (by omega) (by omega) s t sX (hs.wide (by omega)) (ht.wide (by omega)) ka1 true ⟨fun _ => by rw [es, et]; exact hboth.2, fun _ => rfl⟩ V os ot (ka2.on hV)
      unfold ptV spV at cs ct
      unfold ptV at ca cb cc cd
      unfold spV at co cp
      have KS := Lib.hid cs
      have KT := Lib.hid ct
      have KA := Lib.hid ca
      have KB := Lib.hid cb
      have KC := Lib.hid cc
      have KD := Lib.hid cd
      have KO := Lib.hid co
      have KP := Lib.hid cp
      have HBL := Lib.hid hbl
      have HS := Lib.hid (show ∀ w', Below wr.heap.size wr w' → w'.cell? ⟨w.heap.size, 0, none⟩ = some (.int .i64 a.x) ∧ w'.cell? ⟨w.heap.size, 1, none⟩ = some (.int .i64 a.y) ∧ w'.cell? ⟨w.heap.size, 2, none⟩ = some (.int .i64 b.x) ∧ w'.cell? ⟨w.heap.size, 3, none⟩ = some (.int .i64 b.y) ∧ w'.cell? ⟨w.heap.size + 1, 0, none⟩ = some (.int .i64 c.x) ∧ w'.cell? ⟨w.heap.size + 1, 1, none⟩ = some (.int .i64 c.y) ∧ w'.cell? ⟨w.heap.size + 1, 2, none⟩ = some (.int .i64 d.x) ∧ w'.cell? ⟨w.heap.size + 1, 3, none⟩ = some (.int .i64 d.y) ∧ w'.cell? ⟨bX, oX + i * 6, none⟩ = some (.bool sX.n1) ∧ w'.cell? ⟨bX, oX + i * 6 + 1, none⟩ = some (.slice sX.A1 sX.a1.length sX.c1) ∧ w'.cell? ⟨bX, oX + i * 6 + 2, none⟩ = some (.slice sX.D1 sX.d1.length sX.e1) ∧ w'.cell? ⟨bX, oX + i * 6 + 3, none⟩ = some (.bool sX.n2) ∧ w'.cell? ⟨bX, oX + i * 6 + 4, none⟩ = some (.slice sX.A2 sX.a2.length sX.c2) ∧ w'.cell? ⟨bX, oX + i * 6 + 5, none⟩ = some (.slice sX.D2 sX.d2.length sX.e2) from fun w' hb => by
        have B0 := HR.out.2.2.2.2.trans (HBL.out.mono HR.out.2.2.2.2.size)
        obtain ⟨k0, k1, k2, k3⟩ := Box.quad ((HK.out.1.below B0 HK.out.1.lt).below hb (Nat.lt_of_lt_of_le HK.out.1.lt B0.size))
        obtain ⟨l0, l1, l2, l3⟩ := Box.quad ((HK.out.2.1.below B0 HK.out.2.1.lt).below hb (Nat.lt_of_lt_of_le HK.out.2.1.lt B0.size))
        have g := fun j u hu => ((HBL.out.trans (hb.mono HBL.out.size)).cell (p := ⟨bX, oX + i * 6 + j, none⟩) HCX.out.1).trans (HCX.out.2 j u hu)
        exact ⟨k0, k1, k2, k3, l0, l1, l2, l3, g 0 _ rfl, g 1 _ rfl, g 2 _ rfl, g 3 _ rfl, g 4 _ rfl, g 5 _ rfl⟩)
      have K0 : Below wr.heap.size wr wr.drew := (Below.refl _ _).drew
      clear cs ct ca cb cc cd co cp ka1 ka2 ka3 hboth hf hiR hsX hbX hcX hbl
      go_wp2_with fail
      go_region_held3 (fun w' => w'.cell? ⟨w.heap.size, 0, none⟩ = some (.int .i64 a.x) ∧ w'.cell? ⟨w.heap.size, 1, none⟩ = some (.int .i64 a.y) ∧ w'.cell? ⟨w.heap.size, 2, none⟩ = some (.int .i64 b.x) ∧ w'.cell? ⟨w.heap.size, 3, none⟩ = some (.int .i64 b.y) ∧ w'.cell? ⟨w.heap.size + 1, 0, none⟩ = some (.int .i64 c.x) ∧ w'.cell? ⟨w.heap.size + 1, 1, none⟩ = some (.int .i64 c.y) ∧ w'.cell? ⟨w.heap.size + 1, 2, none⟩ = some (.int .i64 d.x) ∧ w'.cell? ⟨w.heap.size + 1, 3, none⟩ = some (.int .i64 d.y) ∧ w'.cell? ⟨bX, oX + i * 6, none⟩ = some (.bool sX.n1) ∧ w'.cell? ⟨bX, oX + i * 6 + 1, none⟩ = some (.slice sX.A1 sX.a1.length sX.c1) ∧ w'.cell? ⟨bX, oX + i * 6 + 2, none⟩ = some (.slice sX.D1 sX.d1.length sX.e1) ∧ w'.cell? ⟨bX, oX + i * 6 + 3, none⟩ = some (.bool sX.n2) ∧ w'.cell? ⟨bX, oX + i * 6 + 4, none⟩ = some (.slice sX.A2 sX.a2.length sX.c2) ∧ w'.cell? ⟨bX, oX + i * 6 + 5, none⟩ = some (.slice sX.D2 sX.d2.length sX.e2))
        (first | (with_reducible exact HS.out _ K0) | (with_reducible exact HS.out _ K1) | (with_reducible exact HS.out _ K2) | (with_reducible exact HS.out _ K3) | (with_reducible exact HS.out _ K4) | (with_reducible exact HS.out _ K5) | (with_reducible exact HS.out _ K6) | (with_reducible exact HS.out _ K7) | (with_reducible exact HS.out _ K8))
        ((first
          | (go_at_call 17; (with_reducible refine Calls.mono (KS.out _ (HBL.out.trans (K0.mono HBL.out.size))) ?_); rintro e v1 ⟨rfl, b1⟩; have K1 := below_next K0 (Nat.le_refl _) b1)
          | (go_at_call 17; (with_reducible refine Calls.mono (KT.out _ (HBL.out.trans (K1.mono HBL.out.size))) ?_); rintro e v2 ⟨rfl, b2⟩; have K2 := below_next K1 (Nat.le_refl _) b2)
          | (go_at_call 19; (with_reducible refine Calls.mono (KA.out _) ?_); rintro e v3 ⟨sA, rfl, rA, oA, eA, b3⟩; unfold spV; have K3 := below_next K2 (Nat.le_refl _) b3)
          | (go_at_call 19; (with_reducible refine Calls.mono (KB.out _) ?_); rintro e v4 ⟨sB, rfl, rB, oB, eB, b4⟩; unfold spV; have K4 := below_next K3 (Nat.le_refl _) b4)
          | (go_at_call 18; (with_reducible refine Calls.mono (KO.out sA sB _ (HBL.out.trans (K4.mono HBL.out.size)) rA eA rB eB (oA.on b4) oB) ?_); rintro e v5 ⟨rfl, b5⟩; have K5 := below_next K4 (Nat.le_refl _) b5)
          | (go_at_call 19; (with_reducible refine Calls.mono (KC.out _) ?_); rintro e v6 ⟨sC, rfl, rC, oC, eC, b6⟩; unfold spV; have K6 := below_next K5 (Nat.le_refl _) b6)
          | (go_at_call 19; (with_reducible refine Calls.mono (KD.out _) ?_); rintro e v7 ⟨sD, rfl, rD, oD, eD, b7⟩; unfold spV; have K7 := below_next K6 (Nat.le_refl _) b7)
          | (go_at_call 18; (with_reducible refine Calls.mono (KP.out sC sD _ (HBL.out.trans (K7.mono HBL.out.size)) rC eC rD eD (oC.on b7) oD) ?_); rintro e v8 ⟨rfl, b8⟩; have K8 := below_next K7 (Nat.le_refl _) b8)))
      have HK8 := Lib.hid K8
      clear KS KT KA KB KC KD KO KP rA oA eA rB oB eB rC oC eC rD oD eD b1 b2 b3 b4 b5 b6 b7 b8 K0 K1 K2 K3 K4 K5 K6 K7 K8
      go_wp2_with fail
      go_roundg (gk - 1)
      case measure => have := HG.out; omega
      case rel => exact ⟨i + 1, by go_num, by have := HG.out; omega, HBL.out.trans (HK8.out.mono HBL.out.size)⟩
    · have hie : i = xs.length := by have := HG.out; omega
      subst hie
      have B0 := HR.out.2.2.2.2.trans (hbl.mono HR.out.2.2.2.2.size)
      obtain ⟨p0, p1, p2, p3⟩ := Box.quad (HK.out.1.below B0 HK.out.1.lt)
      obtain ⟨q0, q1, q2, q3⟩ := Box.quad (HK.out.2.1.below B0 HK.out.2.1.lt)
      have HBL := Lib.hid (And.intro hbl B0)
      have hl2 : R.length ≤ 1073741824 := by have := HLN.out.2; omega
      clear hbl B0
      go_wp2_with first
        | (go_at_call 10; first
           | ((with_reducible refine Calls.mono (CN.out _) ?_); rintro e v1 ⟨pY, capY, ys, R2, rfl, hcY, hrY, hwY, hmY, b1⟩
              obtain rfl := HR.out.2.2.1.unique hmY.turn
              have HY := Lib.hid (And.intro hrY (And.intro hwY b1))
              have D1 := Lib.hid (HBL.out.1.trans (b1.mono HBL.out.1.size))
              clear hcY hrY hwY hmY b1)
           | ((with_reducible refine Calls.mono (CO.out _) ?_); rintro e v3 ⟨pZ, capZ, zs, R3, rfl, hcZ, hrZ, hwZ, hmZ, b3⟩
              obtain rfl := HR.out.2.2.1.unique hmZ.back
              have HZ := Lib.hid (And.intro hrZ (And.intro hwZ b3))
              have D3 := Lib.hid (D2.out.trans (b3.mono D2.out.size))
              clear hcZ hrZ hwZ hmZ b3))
        | (go_at_call_of 9 (Value.slice pY ys.length capY); ((with_reducible refine Calls.mono (CSM.out xs ys R _ _ _ _ v1 (HR.out.1.on D1.out) HY.out.1 (HR.out.2.1.on D1.out) HY.out.2.1 hl2) ?_); rintro e v2 ⟨rfl, b2⟩; have D2 := Lib.hid (D1.out.trans (b2.mono D1.out.size)); clear p0 p1 p2 p3 q0 q1 q2 q3; obtain ⟨q0, q1, q2, q3⟩ := Box.quad ((HK.out.2.1.below HR.out.2.2.2.2 HK.out.2.1.lt).below D2.out (Nat.lt_of_lt_of_le HK.out.2.1.lt HR.out.2.2.2.2.size)); obtain ⟨p0, p1, p2, p3⟩ := Box.quad (HR.out.2.2.2.1.below D2.out HR.out.2.2.2.1.lt); clear b2))
        | (go_at_call_of 9 (Value.slice pZ zs.length capZ); ((with_reducible refine Calls.mono (CSM.out xs zs R _ _ _ _ v3 (HR.out.1.on D3.out) HZ.out.1 (HR.out.2.1.on D3.out) HZ.out.2.1 hl2) ?_); rintro e v4 ⟨rfl, b4⟩; have D4 := Lib.hid (D3.out.trans (b4.mono D3.out.size)); clear b4))
        | (go_at_call 14; (with_reducible refine Calls.mono (CL.out _ (HT.out.on (HK.out.2.2.trans ((HR.out.2.2.2.2.trans (D4.out.mono HR.out.2.2.2.2.size)).mono HK.out.2.2.size)))) ?_); rintro e v5 ⟨rfl, b5⟩)
      go_ret
      have E4 := HK.out.2.2.trans ((HR.out.2.2.2.2.trans (D4.out.mono HR.out.2.2.2.2.size)).mono HK.out.2.2.size)
      exact ⟨rfl, E4.trans (b5.mono E4.size)⟩
end Go.Proofs.YtdmoibphidipeaaGreatDoor
