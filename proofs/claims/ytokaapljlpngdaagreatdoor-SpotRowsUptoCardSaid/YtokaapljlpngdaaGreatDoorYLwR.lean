/- The law SpotRows: its walk. -/
import Derived.Test.YtokaapljlpngdaaGreatDoorYSpRo
import Derived.Test.YtokaapljlpngdaaGreatDoorMB
namespace Go.Proofs.YtokaapljlpngdaaGreatDoor
open Go.RowKit Num rows
open Go.Sort (grow)

theorem rv_SameG (P : Int) (Q k : Nat) (hk : k ≤ 4611686018427387904) : Fb2 15 (SG P Q k) (SG P Q k) true :=
  fun n n' a d a' d' A D A' D' ca cd ca' cd' w hS hT r q r' q' => by
    obtain ⟨rfl, rfl, rfl⟩ := SG.same hS hT
    exact ref4_same_true n a d A D A' D' ca cd ca' cd' w r q r' q' (Nat.le_trans hS.2.1 hk) (Nat.le_trans hS.2.2 hk)
theorem SG.turn {P P' : Int} {Q Q' m : Nat} (hQ : 0 < Q) (hQ' : 0 < Q') (h : P * (Q' : Int) = P' * (Q : Int)) {n : Bool} {a d : List Nat} {ca cd : Nat} (k : SG P Q m n a ca d cd) : SG P' Q' m n a ca d cd := ⟨k.1.conv hQ hQ' h, k.2⟩
theorem same_spots (L : List Sp) (M i j : Nat) (hM : M ≤ 4611686018427387904) (x y : Sp) (hx : Is L M i x) (hy : Is L M j y) (h : cfL L i j = 0) (V : World) (ox : x.Ok V) (oy : y.Ok V) :
    Calls Tryz.prog 6 #[.agg #[.bool x.n1, .slice x.A1 x.a1.length x.c1, .slice x.D1 x.d1.length x.e1, .bool x.n2, .slice x.A2 x.a2.length x.c2, .slice x.D2 x.d2.length x.e2], .agg #[.bool y.n1, .slice y.A1 y.a1.length y.c1, .slice y.D1 y.d1.length y.e1, .bool y.n2, .slice y.A2 y.a2.length y.c2, .slice y.D2 y.d2.length y.e2]] V fun e w' => e = .returned (.bool true) ∧ Below V.heap.size V w' := by
  have h' : cmpS (L.getD i default) (L.getD j default) = 0 := h
  unfold cmpS at h'
  obtain ⟨z1, z2⟩ := lex_zero h'
  rw [sgn_zero] at z1 z2
  have k1 := SG.turn (loD_pos _) (loD_pos (L.getD j default).d1) (show upN (L.getD i default).n1 (L.getD i default).a1 (L.getD i default).d1 * (loD (L.getD j default).d1 : Int) = upN (L.getD j default).n1 (L.getD j default).a1 (L.getD j default).d1 * (loD (L.getD i default).d1 : Int) by omega) hx.1
  have k2 := SG.turn (loD_pos _) (loD_pos (L.getD j default).d2) (show upN (L.getD i default).n2 (L.getD i default).a2 (L.getD i default).d2 * (loD (L.getD j default).d2 : Int) = upN (L.getD j default).n2 (L.getD j default).a2 (L.getD j default).d2 * (loD (L.getD i default).d2 : Int) by omega) hx.2
  exact ref5_Same (rv_SameG _ _ M hM) (rv_SameG _ _ M hM) x.n1 x.n2 y.n1 y.n2 x.a1 x.d1 x.a2 x.d2 y.a1 y.d1 y.a2 y.d2 x.A1 x.D1 x.A2 x.D2 y.A1 y.D1 y.A2 y.D2 x.c1 x.e1 x.c2 x.e2 y.c1 y.e1 y.c2 y.e2 V k1 k2 hy.1 hy.2 ox.1.1 ox.1.2 ox.2.1 ox.2.2 oy.1.1 oy.1.2 oy.2.1 oy.2.2

set_option maxRecDepth 100000 in
set_option maxHeartbeats 25600000 in
theorem walk_SpotRows (L : List Sp) (A : Option Addr) (cap m : Nat) (w : World) (hm1 : 1 ≤ m) (hm : m + 1 ≤ 2097150) (hlen : L.length ≤ 1048576) (hcap : L.length ≤ cap) (hl : RdS w A L) (hok : ∀ s ∈ L, s.Ok w) (hsh : ∀ s ∈ L, s.Sh m) (htab : Tab w) :
    Calls Tryz.prog 3 #[.slice A L.length cap] w fun e w' => e = .returned (.bool true) ∧ Below w.heap.size w w' := by
  have c1 := spot_RowAny L A cap m w hm1 hm hlen hl hok hsh
  have c2 := fun (V : World) (hV : Below w.heap.size w V) => (ref5_Row L A cap m V hm hlen hcap (hl.on hV) (fun s hs => (hok s hs).on hV) hsh).mono fun e w' h => RowIs.reads h
  have C1 := Lib.hid c1
  have C2 := Lib.hid c2
  have hrl := rowR_length (cf := cfL L) L.length
  clear c1 c2 hl hok hsh
  go_enter Tryz.func3, Tryz.ntmps3
  go_wp2_with first
    | (go_at_call 4; (with_reducible refine Calls.mono C1.out ?_); rintro e w1 ⟨O, hal, p1, cap1, xs, rfl, hcx, hrx, hfx, hb1⟩; replace hal := Lib.hid hal; replace hrx := Lib.hid hrx; replace hfx := Lib.hid hfx; replace hb1 := Lib.hid hb1)
    | (go_at_call 5; (with_reducible refine Calls.mono (C2.out _ hb1.out) ?_); rintro e w2 ⟨p2, cap2, ys, rfl, hcy, hry, hfy, hb2⟩; obtain ⟨n, hn⟩ : ∃ n, n = xs.length := ⟨_, rfl⟩; have hlen2 : ys.length = n := (by have h1 := hal.out.length; have h2 := hfx.out.1; have h3 := hfy.1; omega); rw [hlen2]; rw [← hn]; replace hry := Lib.hid hry; replace hfy := Lib.hid hfy; replace hb2 := Lib.hid hb2)
  have HLN := Lib.hid (And.intro hn hlen2)
  clear hlen2 hn
  go_loopg [5] xs.length (fun gh v5 wr => ∃ i : Nat, v5 = .int .i64 i ∧ gh + i = xs.length ∧ Below w2.heap.size w2 wr)
  case atStart => exact ⟨0, rfl, rfl, Below.refl _ _⟩
  case round =>
    obtain ⟨i, rfl, hg, hbl⟩ := hrel
    have HG := Lib.hid hg
    clear hg
    by_cases hi : i < xs.length
    · have hiy : i < ys.length := by have := HLN.out; omega
      have hiO : i < O.length := by have := hfx.out.1; omega
      have hiR : i < (rowR (cfL L) L.length).length := by have := hfy.out.1; omega
      have kx := hfx.out.2 i hiO hi
      have ky := hfy.out.2 i hiR hiy
      have hcf := hal.out.get i hiO hiR
      obtain ⟨b1, o1, rfl, hq1, hc1⟩ := ((hrx.out.on hb2.out).on hbl) (by omega)
      obtain ⟨b2, o2, rfl, hq2, hc2⟩ := (hry.out.on hbl) (by omega)
      have cM := fun (V : World) (hV : Below wr.heap.size wr V) => same_spots L (m + 1) O[i] (rowR (cfL L) L.length)[i] (by omega) xs[i] ys[i] kx.1 ky.1 hcf V (((kx.2.on hb2.out).on hbl).on hV) ((ky.2.on hbl).on hV)
      have CM := quiet_of cM
      have x0 := cell_regrown (hc1 i hi 0 _ rfl)
      have y0 := cell_regrown (hc2 i hiy 0 _ rfl)
      have x1 := cell_regrown (hc1 i hi 1 _ rfl)
      have y1 := cell_regrown (hc2 i hiy 1 _ rfl)
      have x2 := cell_regrown (hc1 i hi 2 _ rfl)
      have y2 := cell_regrown (hc2 i hiy 2 _ rfl)
      have x3 := cell_regrown (hc1 i hi 3 _ rfl)
      have y3 := cell_regrown (hc2 i hiy 3 _ rfl)
      have x4 := cell_regrown (hc1 i hi 4 _ rfl)
      have y4 := cell_regrown (hc2 i hiy 4 _ rfl)
      have x5 := cell_regrown (hc1 i hi 5 _ rfl)
      have y5 := cell_regrown (hc2 i hiy 5 _ rfl)
      simp only [Nat.add_zero] at x0 y0
      have HBL := Lib.hid hbl
      have hii : (i : Int) < xs.length := by omega
      clear cM kx ky hcf hc1 hc2 hbl
      go_wp2_with fail
      refine wp_region_quiet_below (by kernel_rfl) (by kernel_rfl) ?_
      quiet_step (fail)
      quiet_step (fail)
      quiet_step (fail)
      quiet_step (fail)
      quiet_step (fail)
      quiet_step (fail)
      quiet_step (fail)
      quiet_step (fail)
      quiet_step (with_reducible exact CM _ _)
      quiet_step (fail)
      refine wpQuiet_nil ?_
      intro _ hw'
      obtain ⟨⟨dq, osq⟩, hw''⟩ := hw'
      subst hw''
      obtain ⟨wq, hwq⟩ : ∃ x, grow (redrawn wr dq) osq = x := ⟨_, rfl⟩
      have Bq : Below wr.heap.size wr wq := by rw [← hwq]; exact below_regrown wr dq osq
      rw [hwq]
      have BQ := Lib.hid Bq
      clear hwq Bq CM x0 y0 x1 y1 x2 y2 x3 y3 x4 y4 x5 y5
      go_wp2_with fail
      go_roundg (gk - 1)
      case measure => have := HG.out; omega
      case rel => exact ⟨i + 1, by go_num, by have := HG.out; omega, HBL.out.trans (BQ.out.mono HBL.out.size)⟩
    · have hie : i = xs.length := by have := HG.out; omega
      subst hie
      have hB : Below w.heap.size w wr := (hb1.out.trans (hb2.out.mono hb1.out.size)).trans (hbl.mono (Nat.le_trans hb1.out.size hb2.out.size))
      have HB := Lib.hid hB
      have cl := law5_lives wr (htab.on hB)
      have CL := Lib.hid cl
      clear hbl hB cl
      go_wp2_with (go_at_call 7; (with_reducible refine Calls.mono CL.out ?_); rintro e w6 ⟨rfl, hb6⟩; replace hb6 := Lib.hid hb6)
      go_ret
      exact ⟨rfl, HB.out.trans (hb6.out.mono HB.out.size)⟩
end Go.Proofs.YtokaapljlpngdaaGreatDoor
