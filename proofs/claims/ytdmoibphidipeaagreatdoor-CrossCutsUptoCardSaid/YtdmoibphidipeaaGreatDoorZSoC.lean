/- Rows of spots: the walk of the document's own Row. -/
import Derived.Test.YtdmoibphidipeaaGreatDoorZOaI
import Derived.Test.YtdmoibphidipeaaGreatDoorZSoB
namespace Go.Proofs.YtdmoibphidipeaaGreatDoor
open Go.RowKit Num rows
open Go.Sort (grow)

/-- a row that a call hands back -/
def RowIs (L : List Sp) (M : Nat) (O : List Nat) (w : World) (e : Ending) (w' : World) : Prop :=
  ∃ v xs, e = .returned v ∧ OwnS w' w.heap.size v xs.length (flat xs) ∧ Fits L M w' O xs ∧ Below w.heap.size w w'
/-- the state of the inner loop: what stands in 'next' -/
def NextIs (L : List Sp) (M i : Nat) (O : List Nat) (k : Nat) (b : Bool) (wo wr : World) (v : Value) : Prop :=
  ∃ (Y : List Nat) (ys : List Sp), OwnS wr wo.heap.size v ys.length (flat ys) ∧ Fits L M wr Y ys ∧ Y ++ ins (cfL L) i (O.drop k) b = ins (cfL L) i O false ∧ ys.length ≤ 2 * k + 1
/-- what is carried along: the row that has been made, and what was handed in -/
def Held (L : List Sp) (M : Nat) (O : List Nat) (xs : List Sp) (A : Option Addr) (w wo wr : World) (v : Value) : Prop :=
  OwnS wr w.heap.size v xs.length (flat xs) ∧ Fits L M wr O xs ∧ RdS wr A L ∧ (∀ s ∈ L, s.Ok wr) ∧ Below wo.heap.size wo wr ∧ (∀ k, v.ownBlock = some k → k < wo.heap.size)
theorem Held.on {L : List Sp} {M : Nat} {O : List Nat} {xs : List Sp} {A : Option Addr} {w wo wr w' : World} {v : Value} (h : Held L M O xs A w wo wr v) (b : Below wr.heap.size wr w') : Held L M O xs A w wo w' v :=
  ⟨h.1.kept b, h.2.1.imp fun _ k => k.on b, h.2.2.1.on b, fun s hs => (h.2.2.2.1 s hs).on b, h.2.2.2.2.1.trans (b.mono h.2.2.2.2.1.size), h.2.2.2.2.2⟩
theorem NextIs.on {L : List Sp} {M i : Nat} {O : List Nat} {k : Nat} {b : Bool} {wo wr w' : World} {v : Value} (h : NextIs L M i O k b wo wr v) (hb : Below wr.heap.size wr w') : NextIs L M i O k b wo w' v := by
  obtain ⟨Y, ys, h1, h2, h3⟩ := h
  exact ⟨Y, ys, h1.kept hb, h2.imp fun _ k => k.on hb, h3⟩
/-- 'next' has grown: what was held is held -/
theorem Held.grown {L : List Sp} {M : Nat} {O : List Nat} {xs : List Sp} {A : Option Addr} {w wo wr w' : World} {v v5 : Value} {n : Nat} {ys : List Value} (h : Held L M O xs A w wo wr v) (h5 : OwnS wr wo.heap.size v5 n ys) (hg : wr.grownBy w' v5.ownBlock) (hA : ∀ b o, A = some ⟨b, o, none⟩ → 0 < L.length → b < wo.heap.size) : Held L M O xs A w wo w' v := by
  have hrow : ∀ k, v5.ownBlock = some k → wo.heap.size ≤ k := fun k hk => (h5.lt k hk).1
  refine ⟨h.1.other h.2.2.2.2.2 hrow hg, h.2.1.imp fun _ k => h5.ok hg k, fun hn => ?_, fun s hs => h5.ok hg (h.2.2.2.1 s hs), h.2.2.2.2.1.grown hg h.2.2.2.2.1.size hrow, h.2.2.2.2.2⟩
  obtain ⟨b, o, e, hb, hc⟩ := h.2.2.1 hn
  have hbo := hA b o e hn
  refine ⟨b, o, e, Nat.lt_of_lt_of_le hb hg.size, fun i hi j u hu => ?_⟩
  rw [← hc i hi j u hu]
  exact World.cell?_of_block (hg.block b hb (fun e2 => by have := hrow b e2.symm; omega))
/-- the cells of a held row -/
theorem Held.cells {L : List Sp} {M : Nat} {O : List Nat} {xs : List Sp} {A : Option Addr} {w wo wr : World} {g n cap : Nat} (h : Held L M O xs A w wo wr (.slice (some ⟨g, 0, none⟩) n cap)) (hn : n = xs.length) (k : Nat) (hk : k < xs.length) (j : Nat) (u : Value) (hj : j < 6) (hu : (xs[k].cells)[j]? = some u) : wr.cell? ⟨g, k * 6 + j, none⟩ = some u := by
  subst hn
  exact h.1.cell _ (flat_getS xs k hk j u hj hu)
set_option maxRecDepth 100000 in
set_option maxHeartbeats 25600000 in
theorem ref5_Row (L : List Sp) (A : Option Addr) (cap m : Nat) (w : World) (hm : m + 1 ≤ 2097150) (hlen : L.length ≤ 1048576) (_hcap : L.length ≤ cap) (hl : RdS w A L) (hok : ∀ s ∈ L, s.Ok w) (hsh : ∀ s ∈ L, s.Sh m) :
    Calls Tryz.prog 46 #[.slice A L.length cap] w (RowIs L (m + 1) (rowR (cfL L) L.length) w) := by
  have hA : ∀ b o, A = some ⟨b, o, none⟩ → 0 < L.length → b < w.heap.size := fun b o e hn => by
    obtain ⟨b', o', e', hb, -⟩ := hl hn
    rw [e] at e'
    cases e'
    exact hb
  have HL := Lib.hid (And.intro hl (And.intro hok hsh))
  have HA := Lib.hid hA
  clear hl hok hsh hA
  go_enter Tryz.func46, Tryz.ntmps46
  go_wp2_with fail
  go_loopg [3, 4] L.length (fun gh v3 v4 wr => ∃ (i : Nat) (xs : List Sp), gh + i = L.length ∧ v4 = .int .i64 i ∧ OwnS wr w.heap.size v3 xs.length (flat xs) ∧ Fits L (m + 1) wr (rowR (cfL L) i) xs ∧ xs.length ≤ i ∧ Below w.heap.size w wr)
  case atStart => exact ⟨0, [], by omega, rfl, OwnS.nil _ _, Fits.nil _ _ _, Nat.le_refl _, Below.refl _ _⟩
  case round =>
    obtain ⟨i, xs, hg, rfl, hown, hfit, hxi, hbel⟩ := hrel
    obtain ⟨wo, hwo⟩ : ∃ x, x = wr := ⟨_, rfl⟩
    subst hwo
    obtain ⟨go, hgo⟩ : ∃ x, x = gk := ⟨_, rfl⟩
    subst hgo
    have HG := Lib.hid hg
    clear hg
    by_cases hlt : i < L.length
    · obtain ⟨O, hO⟩ : ∃ O, rowR (cfL L) i = O := ⟨_, rfl⟩
      rw [hO] at hfit
      obtain ⟨A3, cap3, rfl, hc3⟩ := hown.any
      have hheld0 : Held L (m + 1) O xs A w wo wo (.slice A3 xs.length cap3) := ⟨hown, hfit, HL.out.1.on hbel, fun s hs => (HL.out.2.1 s hs).on hbel, Below.refl _ _, fun k hk => (hown.lt k hk).2⟩
      have HO := Lib.hid hO
      have HB := Lib.hid hbel
      have HH := Lib.hid hheld0
      have HAW := Lib.hid (fun (b o : Nat) (e : A = some ⟨b, o, none⟩) (hn : 0 < L.length) => Nat.lt_of_lt_of_le (HA.out b o e hn) HB.out.size)
      have hx31 : xs.length ≤ 1048576 := by omega
      clear hO hown hfit hheld0 hbel
      go_wp2_with fail
      go_loopg [5, 6, 7] xs.length (fun gh v5 v6 v7 wr => ∃ (k : Nat) (b : Bool), gh + k = xs.length ∧ v7 = .int .i64 k ∧ v6 = .bool b ∧ NextIs L (m + 1) i O k b wo wr v5 ∧ Held L (m + 1) O xs A w wo wr (.slice A3 xs.length cap3))
      case atStart => exact ⟨0, false, by omega, rfl, rfl, ⟨[], [], OwnS.nil _ _, Fits.nil _ _ _, rfl, by simp⟩, HH.out⟩
      case round =>
        obtain ⟨k, b, hg2, rfl, rfl, hnext, hheld⟩ := hrel
        have HG2 := Lib.hid hg2
        clear hg2
        by_cases hk : k < xs.length
        · obtain ⟨Y, ys, h5, hY, hyk, hy2⟩ := hnext
          obtain ⟨A5, cap5, rfl, hc5⟩ := h5.any
          obtain ⟨g3, cap', e3, -⟩ := hheld.1.form (by omega)
          cases e3
          obtain ⟨b0, o0, rfl, hb0, hc0⟩ := hheld.2.2.1 (by omega)
          have hOk : k < O.length := by have := hheld.2.1.1; omega
          obtain ⟨hIs, hxo⟩ := hheld.2.1.2 k hOk hk
          have hcx := fun j u hj hu => hheld.cells rfl k hk j u hj hu
          have hcl := fun j u hu => hc0 i hlt j u hu
          have hLi : L.getD i default = L[i] := by simp [List.getD, hlt]
          have hsi := HL.out.2.2 _ (List.getElem_mem hlt)
          have hoi := hheld.2.2.2.1 _ (List.getElem_mem hlt)
          obtain ⟨z, hz⟩ : ∃ z, cfL L i O[k] = z := ⟨_, rfl⟩
          have hz' := hz
          unfold cfL cmpS at hz'
          have hz3 : z = -1 ∨ z = 0 ∨ z = 1 := by rw [← hz']; exact lex_three (sgn_three _) (sgn_three _)
          have hdrop : O.drop k = O[k] :: O.drop (k + 1) := List.drop_eq_getElem_cons hOk
          have cM := fun (V : World) (hV : Below wr.heap.size wr V) => rv_SCmp (m := m + 1) (by omega) (loD_pos _) (loD_pos _) (loD_pos _) (loD_pos _) L[i].n1 L[i].n2 xs[k].n1 xs[k].n2 L[i].a1 L[i].d1 L[i].a2 L[i].d2 xs[k].a1 xs[k].d1 xs[k].a2 xs[k].d2 L[i].A1 L[i].D1 L[i].A2 L[i].D2 xs[k].A1 xs[k].D1 xs[k].A2 xs[k].D2 L[i].c1 L[i].e1 L[i].c2 L[i].e2 xs[k].c1 xs[k].e1 xs[k].c2 xs[k].e2 V (hsi.1.toV.wide (by omega)) (hsi.2.toV.wide (by omega)) (hIs.1.toV (loD_pos _)) (hIs.2.toV (loD_pos _)) (hoi.1.1.on hV) (hoi.1.2.on hV) (hoi.2.1.on hV) (hoi.2.2.on hV) (hxo.1.1.on hV) (hxo.1.2.on hV) (hxo.2.1.on hV) (hxo.2.2.on hV)
          rw [hLi] at hz'
          simp only [hz'] at cM
          have hb0' := hb0
          have hg3 : g3 < wr.heap.size := (hheld.1.lt g3 rfl).2
          have x0 := cell_regrown (hcl 0 _ rfl)
          have y0 := cell_regrown (hcx 0 _ (by omega) rfl)
          have x1 := cell_regrown (hcl 1 _ rfl)
          have y1 := cell_regrown (hcx 1 _ (by omega) rfl)
          have x2 := cell_regrown (hcl 2 _ rfl)
          have y2 := cell_regrown (hcx 2 _ (by omega) rfl)
          have x3 := cell_regrown (hcl 3 _ rfl)
          have y3 := cell_regrown (hcx 3 _ (by omega) rfl)
          have x4 := cell_regrown (hcl 4 _ rfl)
          have y4 := cell_regrown (hcx 4 _ (by omega) rfl)
          have x5 := cell_regrown (hcl 5 _ rfl)
          have y5 := cell_regrown (hcx 5 _ (by omega) rfl)
          simp only [Nat.add_zero] at x0 y0
          have CM := quiet_of cM
          have hii : (i : Int) < L.length := by omega
          have hkk : (k : Int) < xs.length := by omega
          have HI := Lib.hid (And.intro hIs (And.intro hz (And.intro hdrop (And.intro hyk hz'))))
          have HS := Lib.hid (And.intro hLi hsi)
          have H5 := Lib.hid h5
          have HY := Lib.hid hY
          have HD := Lib.hid hheld
          have HC := Lib.hid (And.intro hcl hcx)
          have HX := Lib.hid hxo
          clear cM hIs hz hdrop hyk hLi hsi h5 hY hheld hcl hcx hxo hoi hc0 hz'
          go_wp2_with fail
          refine wp_region_quiet_below (by kernel_rfl) (by kernel_rfl) ?_
          quiet_step (fail)
          quiet_step (fail)
          quiet_step (fail)
          quiet_step (fail)
          quiet_step (fail)
          quiet_step (fail)
          quiet_step (fail)
          quiet_step (fail)
          quiet_step (with_reducible exact CM _ _)
          quiet_step (fail)
          refine wpQuiet_nil ?_
          intro _ hw'
          obtain ⟨⟨dq, osq⟩, hw''⟩ := hw'
          subst hw''
          obtain ⟨wq, hwq⟩ : ∃ x, grow (redrawn wr dq) osq = x := ⟨_, rfl⟩
          have Bq : Below wr.heap.size wr wq := by rw [← hwq]; exact below_regrown wr dq osq
          rw [hwq]
          have hcl := HC.out.1
          have hcx := HC.out.2
          have p0 := ((Bq).cell (p := ⟨b0, o0 + i * 6 + 0, none⟩) hb0).trans (hcl 0 _ rfl)
          have p1 := ((Bq).cell (p := ⟨b0, o0 + i * 6 + 1, none⟩) hb0).trans (hcl 1 _ rfl)
          have p2 := ((Bq).cell (p := ⟨b0, o0 + i * 6 + 2, none⟩) hb0).trans (hcl 2 _ rfl)
          have p3 := ((Bq).cell (p := ⟨b0, o0 + i * 6 + 3, none⟩) hb0).trans (hcl 3 _ rfl)
          have p4 := ((Bq).cell (p := ⟨b0, o0 + i * 6 + 4, none⟩) hb0).trans (hcl 4 _ rfl)
          have p5 := ((Bq).cell (p := ⟨b0, o0 + i * 6 + 5, none⟩) hb0).trans (hcl 5 _ rfl)
          have q0 := ((Bq).cell (p := ⟨g3, k * 6 + 0, none⟩) hg3).trans (hcx 0 _ (by omega) rfl)
          have q1 := ((Bq).cell (p := ⟨g3, k * 6 + 1, none⟩) hg3).trans (hcx 1 _ (by omega) rfl)
          have q2 := ((Bq).cell (p := ⟨g3, k * 6 + 2, none⟩) hg3).trans (hcx 2 _ (by omega) rfl)
          have q3 := ((Bq).cell (p := ⟨g3, k * 6 + 3, none⟩) hg3).trans (hcx 3 _ (by omega) rfl)
          have q4 := ((Bq).cell (p := ⟨g3, k * 6 + 4, none⟩) hg3).trans (hcx 4 _ (by omega) rfl)
          have q5 := ((Bq).cell (p := ⟨g3, k * 6 + 5, none⟩) hg3).trans (hcx 5 _ (by omega) rfl)
          simp only [Nat.add_zero] at p0 q0
          have BQ := Lib.hid Bq
          clear hwq CM hcl hcx Bq x0 y0 x1 y1 x2 y2 x3 y3 x4 y4 x5 y5
          rcases hz3 with rfl | rfl | rfl
          · cases b
            · skip
              have cC := ref5_cleanI L m i (by omega) L[i] HS.out.1 HS.out.2 wq (((HD.out).2.2.2.1 _ (List.getElem_mem hlt)).on BQ.out)
              go_wp2_with fail
              refine cC.mono ?_
              rintro e w2 ⟨x, rfl, hix, hox, b2⟩
              clear cC
              have hIX := Lib.hid hix
              have hOX := Lib.hid hox
              have hB2 := Lib.hid (BQ.out.trans (b2.mono BQ.out.size))
              have h5a := (H5.out).kept hB2.out
              have h5b := Lib.hid h5a
              clear hix hox h5a b2 p0 q0 p1 q1 p2 q2 p3 q3 p4 q4 p5 q5
              have hn7 : ys.length ≤ 1073741824 := by omega
              have hn8 : ((ys ++ [x])).length ≤ 1073741824 := by simp; omega
              go_wp2_with (at_builtin; first
                | (refine wpList_append_sp _ rfl _ _ rfl wo.heap.size _ ys.length (flat ys) rfl (h5b.out.kept (below_new w2 _)) ⟨w2.heap.size, 0, none⟩ x.cells rfl rfl (one_spot w2 x) (cells_one x) (cells_noint x) hn7 (by have := ((HD.out).on hB2.out).2.2.2.2.1.size; simp; omega) ?_
                   intro v7 w7 hown7 hgrow7
                   have h5' := h5b.out.kept (below_new w2 (.cells x.cells.toArray 41))
                   have hD7 := (((HD.out).on hB2.out).on (below_new w2 (.cells x.cells.toArray 41))).grown h5' hgrow7 HAW.out
                   have h57 : OwnS w7 wo.heap.size v7 (ys ++ [x]).length (flat (ys ++ [x])) := by rw [flat_snoc, List.length_append]; exact hown7
                   have hY7 : Fits L (m + 1) w7 (Y ++ [i]) (ys ++ [x]) := ((((HY.out).imp fun _ kk => kk.on hB2.out).imp fun _ kk => kk.on (below_new w2 (.cells x.cells.toArray 41))).imp fun _ kk => h5'.ok hgrow7 kk).snoc hIX.out (h5'.ok hgrow7 (hOX.out.on (below_new w2 (.cells x.cells.toArray 41))))
                   have hX7 : xs[k].Ok w7 := h5'.ok hgrow7 ((HX.out.on hB2.out).on (below_new w2 (.cells x.cells.toArray 41)))
                   have q0 := hD7.cells rfl k hk 0 _ (by omega) rfl
                   have q1 := hD7.cells rfl k hk 1 _ (by omega) rfl
                   have q2 := hD7.cells rfl k hk 2 _ (by omega) rfl
                   have q3 := hD7.cells rfl k hk 3 _ (by omega) rfl
                   have q4 := hD7.cells rfl k hk 4 _ (by omega) rfl
                   have q5 := hD7.cells rfl k hk 5 _ (by omega) rfl
                   simp only [Nat.add_zero] at q0
                   have HD7 := Lib.hid hD7
                   have H57 := Lib.hid h57
                   have HY7 := Lib.hid hY7
                   have HX7 := Lib.hid hX7
                   clear h5' hD7 h57 hY7 hX7 hown7 hgrow7)
                | (refine wpList_append_sp _ rfl _ _ rfl wo.heap.size _ ((ys ++ [x])).length (flat ((ys ++ [x]))) rfl ((H57.out).kept (below_new w7 _)) ⟨w7.heap.size, 0, none⟩ xs[k].cells rfl rfl (one_spot w7 xs[k]) (cells_one xs[k]) (cells_noint xs[k]) hn8 (by have := (HD7.out).2.2.2.2.1.size; simp; omega) ?_; intro v8 w8 hown8 hgrow8; have hown8 := Lib.hid hown8; have hgrow8 := Lib.hid hgrow8; clear q0 q1 q2 q3 q4 q5))
              go_roundg (gk - 1)
              case measure => have := HG2.out; omega
              case rel =>
                have hD := (HD7.out).on (below_new w7 (.cells xs[k].cells.toArray 41))
                have h5' := (H57.out).kept (below_new w7 (.cells xs[k].cells.toArray 41))
                have hD' := hD.grown h5' hgrow8.out HAW.out
                refine ⟨k + 1, true, by have := HG2.out; omega, by go_num, rfl, ⟨(Y ++ [i]) ++ [O[k]], (ys ++ [x]) ++ [xs[k]], by rw [flat_snoc, List.length_append]; exact hown8.out, (((HY7.out).imp fun _ kk => kk.on (below_new w7 (.cells xs[k].cells.toArray 41))).imp fun _ kk => h5'.ok hgrow8.out kk).snoc HI.out.1 (h5'.ok hgrow8.out ((HX7.out).on (below_new w7 (.cells xs[k].cells.toArray 41)))), ?_, by simp; omega⟩, hD'⟩
                have hh := HI.out.2.2.2.1
                rw [HI.out.2.2.1] at hh
                refine Eq.trans ?_ hh
                conv => rhs; unfold ins
                rw [if_pos ⟨by rw [HI.out.2.1]; omega, rfl⟩]
                simp
            · skip
              clear p0 p1 p2 p3 p4 p5
              have hn8 : (ys).length ≤ 1073741824 := by omega
              go_wp2_with (at_builtin; refine wpList_append_sp _ rfl _ _ rfl wo.heap.size _ (ys).length (flat (ys)) rfl (((H5.out).kept BQ.out).kept (below_new wq _)) ⟨wq.heap.size, 0, none⟩ xs[k].cells rfl rfl (one_spot wq xs[k]) (cells_one xs[k]) (cells_noint xs[k]) hn8 (by have := ((HD.out).on BQ.out).2.2.2.2.1.size; simp; omega) ?_; intro v8 w8 hown8 hgrow8; have hown8 := Lib.hid hown8; have hgrow8 := Lib.hid hgrow8; clear q0 q1 q2 q3 q4 q5)
              go_roundg (gk - 1)
              case measure => have := HG2.out; omega
              case rel =>
                have hD := ((HD.out).on BQ.out).on (below_new wq (.cells xs[k].cells.toArray 41))
                have h5' := ((H5.out).kept BQ.out).kept (below_new wq (.cells xs[k].cells.toArray 41))
                have hD' := hD.grown h5' hgrow8.out HAW.out
                refine ⟨k + 1, true, by have := HG2.out; omega, by go_num, rfl, ⟨Y ++ [O[k]], ys ++ [xs[k]], by rw [flat_snoc, List.length_append]; exact hown8.out, ((((HY.out).imp fun _ kk => kk.on BQ.out).imp fun _ kk => kk.on (below_new wq (.cells xs[k].cells.toArray 41))).imp fun _ kk => h5'.ok hgrow8.out kk).snoc HI.out.1 (h5'.ok hgrow8.out ((HX.out.on BQ.out).on (below_new wq (.cells xs[k].cells.toArray 41)))), ?_, by simp; omega⟩, hD'⟩
                have hh := HI.out.2.2.2.1
                rw [HI.out.2.2.1] at hh
                refine Eq.trans ?_ hh
                conv => rhs; unfold ins
                rw [if_neg (by simp), if_neg (by intro h; rw [HI.out.2.1] at h; omega)]
                simp
          · cases b
            · skip
              clear p0 p1 p2 p3 p4 p5
              have hn8 : (ys).length ≤ 1073741824 := by omega
              go_wp2_with (at_builtin; refine wpList_append_sp _ rfl _ _ rfl wo.heap.size _ (ys).length (flat (ys)) rfl (((H5.out).kept BQ.out).kept (below_new wq _)) ⟨wq.heap.size, 0, none⟩ xs[k].cells rfl rfl (one_spot wq xs[k]) (cells_one xs[k]) (cells_noint xs[k]) hn8 (by have := ((HD.out).on BQ.out).2.2.2.2.1.size; simp; omega) ?_; intro v8 w8 hown8 hgrow8; have hown8 := Lib.hid hown8; have hgrow8 := Lib.hid hgrow8; clear q0 q1 q2 q3 q4 q5)
              go_roundg (gk - 1)
              case measure => have := HG2.out; omega
              case rel =>
                have hD := ((HD.out).on BQ.out).on (below_new wq (.cells xs[k].cells.toArray 41))
                have h5' := ((H5.out).kept BQ.out).kept (below_new wq (.cells xs[k].cells.toArray 41))
                have hD' := hD.grown h5' hgrow8.out HAW.out
                refine ⟨k + 1, true, by have := HG2.out; omega, by go_num, rfl, ⟨Y ++ [O[k]], ys ++ [xs[k]], by rw [flat_snoc, List.length_append]; exact hown8.out, ((((HY.out).imp fun _ kk => kk.on BQ.out).imp fun _ kk => kk.on (below_new wq (.cells xs[k].cells.toArray 41))).imp fun _ kk => h5'.ok hgrow8.out kk).snoc HI.out.1 (h5'.ok hgrow8.out ((HX.out.on BQ.out).on (below_new wq (.cells xs[k].cells.toArray 41)))), ?_, by simp; omega⟩, hD'⟩
                have hh := HI.out.2.2.2.1
                rw [HI.out.2.2.1] at hh
                refine Eq.trans ?_ hh
                conv => rhs; unfold ins
                rw [if_neg (by rintro ⟨h, -⟩; rw [HI.out.2.1] at h; omega), if_pos HI.out.2.1]
                simp
            · skip
              clear p0 p1 p2 p3 p4 p5
              have hn8 : (ys).length ≤ 1073741824 := by omega
              go_wp2_with (at_builtin; refine wpList_append_sp _ rfl _ _ rfl wo.heap.size _ (ys).length (flat (ys)) rfl (((H5.out).kept BQ.out).kept (below_new wq _)) ⟨wq.heap.size, 0, none⟩ xs[k].cells rfl rfl (one_spot wq xs[k]) (cells_one xs[k]) (cells_noint xs[k]) hn8 (by have := ((HD.out).on BQ.out).2.2.2.2.1.size; simp; omega) ?_; intro v8 w8 hown8 hgrow8; have hown8 := Lib.hid hown8; have hgrow8 := Lib.hid hgrow8; clear q0 q1 q2 q3 q4 q5)
              go_roundg (gk - 1)
              case measure => have := HG2.out; omega
              case rel =>
                have hD := ((HD.out).on BQ.out).on (below_new wq (.cells xs[k].cells.toArray 41))
                have h5' := ((H5.out).kept BQ.out).kept (below_new wq (.cells xs[k].cells.toArray 41))
                have hD' := hD.grown h5' hgrow8.out HAW.out
                refine ⟨k + 1, true, by have := HG2.out; omega, by go_num, rfl, ⟨Y ++ [O[k]], ys ++ [xs[k]], by rw [flat_snoc, List.length_append]; exact hown8.out, ((((HY.out).imp fun _ kk => kk.on BQ.out).imp fun _ kk => kk.on (below_new wq (.cells xs[k].cells.toArray 41))).imp fun _ kk => h5'.ok hgrow8.out kk).snoc HI.out.1 (h5'.ok hgrow8.out ((HX.out.on BQ.out).on (below_new wq (.cells xs[k].cells.toArray 41)))), ?_, by simp; omega⟩, hD'⟩
                have hh := HI.out.2.2.2.1
                rw [HI.out.2.2.1] at hh
                refine Eq.trans ?_ hh
                conv => rhs; unfold ins
                rw [if_neg (by rintro ⟨h, -⟩; rw [HI.out.2.1] at h; omega), if_pos HI.out.2.1]
                simp
          · cases b
            · skip
              clear p0 p1 p2 p3 p4 p5
              have hn8 : (ys).length ≤ 1073741824 := by omega
              go_wp2_with (at_builtin; refine wpList_append_sp _ rfl _ _ rfl wo.heap.size _ (ys).length (flat (ys)) rfl (((H5.out).kept BQ.out).kept (below_new wq _)) ⟨wq.heap.size, 0, none⟩ xs[k].cells rfl rfl (one_spot wq xs[k]) (cells_one xs[k]) (cells_noint xs[k]) hn8 (by have := ((HD.out).on BQ.out).2.2.2.2.1.size; simp; omega) ?_; intro v8 w8 hown8 hgrow8; have hown8 := Lib.hid hown8; have hgrow8 := Lib.hid hgrow8; clear q0 q1 q2 q3 q4 q5)
              go_roundg (gk - 1)
              case measure => have := HG2.out; omega
              case rel =>
                have hD := ((HD.out).on BQ.out).on (below_new wq (.cells xs[k].cells.toArray 41))
                have h5' := ((H5.out).kept BQ.out).kept (below_new wq (.cells xs[k].cells.toArray 41))
                have hD' := hD.grown h5' hgrow8.out HAW.out
                refine ⟨k + 1, false, by have := HG2.out; omega, by go_num, rfl, ⟨Y ++ [O[k]], ys ++ [xs[k]], by rw [flat_snoc, List.length_append]; exact hown8.out, ((((HY.out).imp fun _ kk => kk.on BQ.out).imp fun _ kk => kk.on (below_new wq (.cells xs[k].cells.toArray 41))).imp fun _ kk => h5'.ok hgrow8.out kk).snoc HI.out.1 (h5'.ok hgrow8.out ((HX.out.on BQ.out).on (below_new wq (.cells xs[k].cells.toArray 41)))), ?_, by simp; omega⟩, hD'⟩
                have hh := HI.out.2.2.2.1
                rw [HI.out.2.2.1] at hh
                refine Eq.trans ?_ hh
                conv => rhs; unfold ins
                rw [if_neg (by rintro ⟨h, -⟩; rw [HI.out.2.1] at h; omega), if_neg (by intro h; rw [HI.out.2.1] at h; omega)]
                simp
            · skip
              clear p0 p1 p2 p3 p4 p5
              have hn8 : (ys).length ≤ 1073741824 := by omega
              go_wp2_with (at_builtin; refine wpList_append_sp _ rfl _ _ rfl wo.heap.size _ (ys).length (flat (ys)) rfl (((H5.out).kept BQ.out).kept (below_new wq _)) ⟨wq.heap.size, 0, none⟩ xs[k].cells rfl rfl (one_spot wq xs[k]) (cells_one xs[k]) (cells_noint xs[k]) hn8 (by have := ((HD.out).on BQ.out).2.2.2.2.1.size; simp; omega) ?_; intro v8 w8 hown8 hgrow8; have hown8 := Lib.hid hown8; have hgrow8 := Lib.hid hgrow8; clear q0 q1 q2 q3 q4 q5)
              go_roundg (gk - 1)
              case measure => have := HG2.out; omega
              case rel =>
                have hD := ((HD.out).on BQ.out).on (below_new wq (.cells xs[k].cells.toArray 41))
                have h5' := ((H5.out).kept BQ.out).kept (below_new wq (.cells xs[k].cells.toArray 41))
                have hD' := hD.grown h5' hgrow8.out HAW.out
                refine ⟨k + 1, true, by have := HG2.out; omega, by go_num, rfl, ⟨Y ++ [O[k]], ys ++ [xs[k]], by rw [flat_snoc, List.length_append]; exact hown8.out, ((((HY.out).imp fun _ kk => kk.on BQ.out).imp fun _ kk => kk.on (below_new wq (.cells xs[k].cells.toArray 41))).imp fun _ kk => h5'.ok hgrow8.out kk).snoc HI.out.1 (h5'.ok hgrow8.out ((HX.out.on BQ.out).on (below_new wq (.cells xs[k].cells.toArray 41)))), ?_, by simp; omega⟩, hD'⟩
                have hh := HI.out.2.2.2.1
                rw [HI.out.2.2.1] at hh
                refine Eq.trans ?_ hh
                conv => rhs; unfold ins
                rw [if_neg (by rintro ⟨h, -⟩; rw [HI.out.2.1] at h; omega), if_neg (by intro h; rw [HI.out.2.1] at h; omega)]
                simp
        · have hke : k = xs.length := by have := HG2.out; omega
          subst hke
          obtain ⟨Y, ys, h5, hY, hyk, hy2⟩ := hnext
          have hdr : O.drop xs.length = [] := List.drop_eq_nil_of_le (by have := hheld.2.1.1; omega)
          rw [hdr] at hyk
          have hrow : rowR (cfL L) (i + 1) = ins (cfL L) i O false := by rw [← HO.out]; rfl
          have hrl := rowR_length (cf := cfL L) (i + 1)
          have hbw : Below w.heap.size w wr := HB.out.trans (hheld.2.2.2.2.1.mono HB.out.size)
          cases b
          · obtain ⟨b0, o0, rfl, hb0, hc0⟩ := hheld.2.2.1 (by omega)
            have hLi : L.getD i default = L[i] := by simp [List.getD, hlt]
            have hsi := HL.out.2.2 _ (List.getElem_mem hlt)
            have hoi := hheld.2.2.2.1 _ (List.getElem_mem hlt)
            have cC := ref5_cleanI L m i (by omega) L[i] hLi hsi wr hoi
            have p0 := hc0 i hlt 0 _ rfl
            have p1 := hc0 i hlt 1 _ rfl
            have p2 := hc0 i hlt 2 _ rfl
            have p3 := hc0 i hlt 3 _ rfl
            have p4 := hc0 i hlt 4 _ rfl
            have p5 := hc0 i hlt 5 _ rfl
            simp only [Nat.add_zero] at p0
            have hii : (i : Int) < L.length := by omega
            have H5 := Lib.hid h5
            have HY := Lib.hid hY
            have HD := Lib.hid hheld
            have HE := Lib.hid (And.intro hyk (And.intro hrow (And.intro hrl hbw)))
            clear h5 hY hheld hyk hrow hrl hdr hLi hsi hoi hc0 hbw
            go_wp2_with fail
            refine cC.mono ?_
            rintro e w2 ⟨x, rfl, hix, hox, b2⟩
            clear cC
            have hIX := Lib.hid hix
            have hOX := Lib.hid hox
            have hB2 := Lib.hid b2
            clear hix hox b2 p0 p1 p2 p3 p4 p5
            have hn7 : ys.length ≤ 1073741824 := by omega
            go_wp2_with (at_builtin; refine wpList_append_sp _ rfl _ _ rfl wo.heap.size _ ys.length (flat ys) rfl ((H5.out.kept hB2.out).kept (below_new w2 _)) ⟨w2.heap.size, 0, none⟩ x.cells rfl rfl (one_spot w2 x) (cells_one x) (cells_noint x) hn7 (by have := ((HD.out).on hB2.out).2.2.2.2.1.size; simp; omega) ?_; intro v7 w7 hown7 hgrow7; have hown7 := Lib.hid hown7; have hgrow7 := Lib.hid hgrow7)
            go_roundg (go - 1)
            case measure => have := HG.out; omega
            case rel =>
              have h5' := (H5.out.kept hB2.out).kept (below_new w2 (.cells x.cells.toArray 41))
              have hD7 := (((HD.out).on hB2.out).on (below_new w2 (.cells x.cells.toArray 41))).grown h5' hgrow7.out HAW.out
              have hY7 : Fits L (m + 1) w7 (Y ++ [i]) (ys ++ [x]) := ((((HY.out).imp fun _ kk => kk.on hB2.out).imp fun _ kk => kk.on (below_new w2 (.cells x.cells.toArray 41))).imp fun _ kk => h5'.ok hgrow7.out kk).snoc hIX.out (h5'.ok hgrow7.out (hOX.out.on (below_new w2 (.cells x.cells.toArray 41))))
              have hYe : Y ++ [i] = rowR (cfL L) (i + 1) := by rw [HE.out.2.1, ← HE.out.1]; rfl
              rw [hYe] at hY7
              refine ⟨i + 1, ys ++ [x], by have := HG.out; omega, by go_num, ?_, hY7, ?_, HB.out.trans (hD7.2.2.2.2.1.mono HB.out.size)⟩
              · rw [flat_snoc, List.length_append]; exact hown7.out.mono HB.out.size
              · have := hY7.1; have := HE.out.2.2.1; omega
          · have HE := Lib.hid (And.intro h5 (And.intro hY (And.intro hyk (And.intro hrow (And.intro hrl hbw)))))
            clear h5 hY hheld hyk hrow hrl hdr hbw
            go_wp2_with fail
            go_roundg (go - 1)
            case measure => have := HG.out; omega
            case rel =>
              obtain ⟨h5, hY, hyk, hrow, hrl, hbw⟩ := HE.out
              have hYe : Y = rowR (cfL L) (i + 1) := by rw [hrow, ← hyk]; simp [ins]
              rw [hYe] at hY
              exact ⟨i + 1, ys, by have := HG.out; omega, by go_num, h5.mono HB.out.size, hY, by have := hY.1; omega, hbw⟩
    · have hi : i = L.length := by have := HG.out; omega
      subst hi
      go_wp2_with fail
      go_ret
      exact ⟨_, xs, rfl, hown, hfit, hbel⟩
end Go.Proofs.YtdmoibphidipeaaGreatDoor
/- Rows of spots: the walk of the program's own Row. -/

namespace Go.Proofs.YtdmoibphidipeaaGreatDoor
open Go.RowKit Num rows
open Go.Sort (grow)

/-- a row that a call hands back, as it is read -/
def RowRd (L : List Sp) (M : Nat) (O : List Nat) (w : World) (e : Ending) (w' : World) : Prop :=
  ∃ p cap xs, e = .returned (.slice p (List.length xs) cap) ∧ xs.length ≤ cap ∧ RdS w' p xs ∧ Fits L M w' O xs ∧ Below w.heap.size w w'
/-- the block of a row that a call made, whose room behind it may have been cut -/
def RowO (base : Nat) (w' : World) (p : Option Addr) (xs : List Sp) : Prop := 0 < xs.length → ∃ g cur, p = some ⟨g, 0, none⟩ ∧ base ≤ g ∧ w'.heap[g]? = some (.cells cur 41 (0, 0)) ∧ cur.toList.take (xs.length * 6) = flat xs ∧ NoInt cur.toList
theorem OwnS.rowO {w' : World} {base base' : Nat} {p : Option Addr} {cap : Nat} {xs : List Sp} (h : OwnS w' base (.slice p xs.length cap) xs.length (flat xs)) (hb : base' ≤ base) : RowO base' w' p xs := fun hn => by
  rcases h.2.2 with ⟨_, h0⟩ | ⟨g, cap, cur, e, hbg, hg, _, _, _, ht, hni⟩
  · omega
  · cases e
    exact ⟨g, cur, rfl, Nat.le_trans hb hbg, hg, ht, hni⟩
def RowRdO (L : List Sp) (M : Nat) (O : List Nat) (w : World) (e : Ending) (w' : World) : Prop :=
  ∃ p cap xs, e = .returned (.slice p (List.length xs) cap) ∧ xs.length ≤ cap ∧ RdS w' p xs ∧ Fits L M w' O xs ∧ Below w.heap.size w w' ∧ RowO w.heap.size w' p xs

set_option maxRecDepth 100000 in
set_option maxHeartbeats 25600000 in
theorem spot_RowO (L : List Sp) (A : Option Addr) (cap m : Nat) (w : World) (hm1 : 1 ≤ m) (hm : m + 1 ≤ 2097150) (hlen : L.length ≤ 1048576) (h0 : 0 < L.length) (hl : RdS w A L) (hok : ∀ s ∈ L, s.Ok w) (hsh : ∀ s ∈ L, s.Sh m) :
    Calls Tryz.prog 37 #[.slice A L.length cap] w fun e w' => ∃ s : List Nat, s.Pairwise (fun a b => cfL L a b ≤ 0) ∧ (∀ x ∈ s, x < L.length) ∧ (∀ i, i < L.length → i ∈ s) ∧ RowRdO L (m + 1) (cut (cfL L) none s) w e w' := by
  obtain ⟨n', hn'⟩ : ∃ n', L.length = n' + 1 := ⟨L.length - 1, by omega⟩
  have hmk := make_places L.length (by omega)
  have HL := Lib.hid (And.intro hl (And.intro hok hsh))
  have HN := Lib.hid hn'
  clear hl hok hsh hn'
  go_enter Tryz.func37, Tryz.ntmps37
  go_wp2_with fail
  go_loopg [13] L.length (fun gh v13 wr => ∃ (i : Nat) (cs : List Nat), v13 = .int .i64 i ∧ gh + i = L.length ∧ cs.length = L.length ∧ (∀ j (h : j < cs.length), j < i → cs[j] = j) ∧ Row wr (w.heap.size + 1) 3 .i64 cs ∧ wr.cell? ⟨w.heap.size, 0, none⟩ = some (.slice A L.length cap) ∧ Below w.heap.size w wr ∧ wr.heap.size = w.heap.size + 2)
  case atStart =>
    refine ⟨0, List.replicate L.length 0, rfl, by omega, by simp, fun j _ h => by omega, Row.at_new _ _ _ _ (by simp), ?_, ((Below.refl _ w).alloc (Nat.le_refl _) _).alloc (by simp) _, by simp⟩
    rw [World.cell?_alloc_lt _ _ _ (by simp)]
    exact (Blk.new w 27 [.slice A L.length cap]).cell 0 rfl
  case round =>
    obtain ⟨i, cs, rfl, hg, hcl, hcs, hrow, hbox, hbel, hsz⟩ := hrel
    have HC := Lib.hid hcs
    have HG1 := Lib.hid (And.intro hg hcl)
    have HR := Lib.hid hrow
    have HB := Lib.hid hbel
    have HX := Lib.hid hbox
    by_cases hi : i < L.length
    · obtain ⟨c0, hcell⟩ : ∃ c, wr.cell? ⟨w.heap.size + 1, i, none⟩ = some (.int .i64 c) := ⟨_, hrow.cell (i := i) (by omega)⟩
      have hfr := hrow.frozen i
      clear hcs hrow hbel hbox hg
      go_wp2_with fail
      go_roundg (gk - 1)
      case measure => have := HG1.out.1; omega
      case rel =>
        refine ⟨i + 1, cs.set i i, by go_num, by have := HG1.out.1; omega, by rw [List.length_set]; exact HG1.out.2, fun j h1 h2 => ?_, HR.out.set i i, ?_, HB.out.setCell (p := ⟨w.heap.size + 1, i, none⟩) (by simp) _, by simp [hsz]⟩
        · rw [List.getElem_set]
          split
          · assumption
          · exact HC.out j (by simpa using h1) (by omega)
        · rw [World.cell?_of_block (w := wr) (Below.heap_setCell wr ⟨w.heap.size + 1, i, none⟩ _ w.heap.size (by simp))]
          exact HX.out
    · have hie : i = L.length := by omega
      subst hie
      have hcells : ∀ j, j < n' + 1 → wr.cell? ⟨w.heap.size + 1, j, none⟩ = some (.int .i64 (j : Int)) ∧ wr.frozen? ⟨w.heap.size + 1, j, none⟩ = false := fun j hj => by
        have hn' := HN.out
        have h1 := hrow.cell (i := j) (by omega)
        rw [hcs j (by omega) (by omega)] at h1
        exact ⟨h1, hrow.frozen j⟩
      have hsort := sort_places L n' HN.out A cap w.heap.size m (w.heap.size + 1) L.length w wr hm1 (by omega) hbel (by omega) (by omega) (by omega) (by omega) hbox HL.out.1 HL.out.2.1 HL.out.2.2 (by omega) hcells
      have HSO := Lib.hid hsort
      clear hsort hcells hcs hrow hbel hbox hmk
      go_wp2_with (go_at_call 69; with_reducible refine Calls.mono HSO.out ?_; rintro e w2 ⟨rfl, s, hs1, hs2, hs3, hs4, hB2, hsz2, hbox2, hc2⟩; obtain ⟨u1, hmk2, hown, hgr, hsz3⟩ := make_spots L.length (by omega) w2 w2.heap.size (Nat.le_refl _); replace hs1 := Lib.hid hs1; replace hs2 := Lib.hid hs2; replace hs3 := Lib.hid hs3; replace hs4 := Lib.hid hs4; replace hB2 := Lib.hid hB2; replace hc2 := Lib.hid hc2; replace hown := Lib.hid hown; replace hgr := Lib.hid hgr; have HX2 := Lib.hid hbox2)
      have hglt2 : w.heap.size + 1 < w2.heap.size := by omega
      go_loopg [5, 29] L.length (fun gh v5 v29 wr => ∃ (k : Nat) (xs : List Sp), gh + k = L.length ∧ v29 = .int .i64 k ∧ OwnS wr w2.heap.size v5 xs.length (flat xs) ∧ Fits L (m + 1) wr (cut (cfL L) none (s.take k)) xs ∧ xs.length ≤ k ∧ Below w2.heap.size w2 wr)
      case atStart => exact ⟨0, [], by omega, rfl, hown.out, Fits.nil _ _ _, Nat.le_refl _, (Below.refl _ _).grown hgr.out (Nat.le_refl _) (fun b e => by cases e)⟩
      case round =>
        obtain ⟨k, xs, hg2, rfl, hw5, hfit, hxk, hbl⟩ := hrel
        have HG := Lib.hid hg2
        clear hg2
        have hbw := hB2.out.trans (hbl.mono hB2.out.size)
        by_cases hk : k < L.length
        · have hks : k < s.length := by rw [hs1.out]; exact hk
          have hi := hs3.out s[k] (List.getElem_mem hks)
          have hpk := (hbl.cell (p := ⟨w.heap.size + 1, k, none⟩) hglt2).trans (hc2.out k hks)
          obtain ⟨i, hie⟩ : ∃ i, s[k] = i := ⟨_, rfl⟩
          rw [hie] at hpk hi
          have hbx := (hbl.cell (p := ⟨w.heap.size, 0, none⟩) (by show w.heap.size < w2.heap.size; omega)).trans HX2.out
          have hglt : w.heap.size < wr.heap.size := by have := hbl.size; omega
          obtain ⟨b0, o0, rfl, hb0, hc0⟩ := (HL.out.1.on hbw) (by omega)
          obtain ⟨A5, cap5, rfl, hc5⟩ := hw5.any
          have hLi : L.getD i default = L[i] := by simp [List.getD, hi]
          have hsi := HL.out.2.2 _ (List.getElem_mem hi)
          have HS := Lib.hid (And.intro hLi hsi)
          have HOK := Lib.hid ((HL.out.2.1 _ (List.getElem_mem hi)).on hbw)
          have HOA := Lib.hid (fun (s : Sp) (hs : s ∈ L) => (HL.out.2.1 s hs).on hbw)
          have HW := Lib.hid hw5
          have HF := Lib.hid hfit
          have HBL := Lib.hid hbl
          have HC := Lib.hid hc0
          have HI := Lib.hid hie
          have HXK := Lib.hid hxk
          have hii : (i : Int) < L.length := by omega
          clear hw5 hfit hbl hc0 hLi hsi hie hbw
          by_cases hk0 : k = 0
          · subst hk0
            go_wp2_with fail
            refine wp_region_quiet_below (by kernel_rfl) (by kernel_rfl) ?_
            quiet_step (fail)
            quiet_step (fail)
            quiet_step (fail)
            go_big_quiet_skip
            go_big_quiet_skip
            go_big_quiet_skip
            go_big_quiet_skip
            go_big_quiet_skip
            go_big_quiet_skip
            go_big_quiet_skip
            go_big_quiet_skip
            go_big_quiet_skip
            go_big_quiet_skip
            go_big_quiet_skip
            go_big_quiet_skip
            go_big_quiet_skip
            go_big_quiet_skip
            quiet_step (fail)
            refine wpQuiet_nil ?_
            intro _ hw'
            obtain ⟨⟨dq, osq⟩, hw''⟩ := hw'
            subst hw''
            obtain ⟨wq, hwq⟩ : ∃ x, grow (redrawn wr dq) osq = x := ⟨_, rfl⟩
            have Bq : Below wr.heap.size wr wq := by rw [← hwq]; exact below_regrown wr dq osq
            rw [hwq]
            have p0 := (Bq.cell (p := ⟨b0, o0 + i * 6 + 0, none⟩) hb0).trans (HC.out i hi 0 _ rfl)
            have p1 := (Bq.cell (p := ⟨b0, o0 + i * 6 + 1, none⟩) hb0).trans (HC.out i hi 1 _ rfl)
            have p2 := (Bq.cell (p := ⟨b0, o0 + i * 6 + 2, none⟩) hb0).trans (HC.out i hi 2 _ rfl)
            have p3 := (Bq.cell (p := ⟨b0, o0 + i * 6 + 3, none⟩) hb0).trans (HC.out i hi 3 _ rfl)
            have p4 := (Bq.cell (p := ⟨b0, o0 + i * 6 + 4, none⟩) hb0).trans (HC.out i hi 4 _ rfl)
            have p5 := (Bq.cell (p := ⟨b0, o0 + i * 6 + 5, none⟩) hb0).trans (HC.out i hi 5 _ rfl)
            have pb := (Bq.cell (p := ⟨w.heap.size, 0, none⟩) hglt).trans hbx
            simp only [Nat.add_zero] at p0
            have BQ := Lib.hid Bq
            clear hwq Bq
            have cC := spot_reducedI L m i hm1 (by omega) L[i] HS.out.1 HS.out.2 wq (HOK.out.on BQ.out)
            go_wp2_with fail
            refine cC.mono ?_
            rintro e w7 ⟨x, rfl, hix, hox, b7⟩
            clear cC
            have hIX := Lib.hid hix
            have hOX := Lib.hid hox
            have hB7 := Lib.hid (BQ.out.trans (b7.mono BQ.out.size))
            clear hix hox b7 p0 p1 p2 p3 p4 p5
            have hn7 : xs.length ≤ 1073741824 := by omega
            go_wp2_with (at_builtin; refine wpList_append_sp _ rfl _ _ rfl w2.heap.size _ xs.length (flat xs) rfl ((HW.out.kept hB7.out).kept (below_new w7 _)) ⟨w7.heap.size, 0, none⟩ x.cells rfl rfl (one_spot w7 x) (cells_one x) (cells_noint x) hn7 (by have := HBL.out.size; have := hB7.out.size; simp; omega) ?_; intro v8 w8 hown8 hgrow8; replace hown8 := Lib.hid hown8; replace hgrow8 := Lib.hid hgrow8)
            go_roundg (gk - 1)
            case measure => have := HG.out; omega
            case rel =>
              have h5 := (HW.out.kept hB7.out).kept (below_new w7 (.cells x.cells.toArray 41))
              have hbl : Below w2.heap.size w2 (w7.alloc (.cells x.cells.toArray 41)) := (HBL.out.trans (hB7.out.mono HBL.out.size)).alloc (Nat.le_trans HBL.out.size hB7.out.size) _
              refine ⟨1, xs ++ [x], by have := HG.out; omega, by go_num, by rw [flat_snoc, List.length_append]; exact hown8.out, ?_, by have := HXK.out; rw [List.length_append, List.length_singleton]; omega, hbl.grown hgrow8.out hbl.size (fun b e => (h5.lt b e).1)⟩
              have hF := ((((HF.out.imp fun _ kk => kk.on hB7.out).imp fun _ kk => kk.on (below_new w7 (.cells x.cells.toArray 41))).imp fun _ kk => h5.ok hgrow8.out kk)).snoc hIX.out (h5.ok hgrow8.out (hOX.out.on (below_new w7 (.cells x.cells.toArray 41))))
              have ht := rows.cut_take0 (cf := cfL L) (s := s) hks
              rw [HI.out] at ht
              show Fits L (m + 1) w8 (cut (cfL L) none (s.take 1)) (xs ++ [x])
              rw [ht]
              have hx0 : xs = [] := List.eq_nil_of_length_eq_zero (by have := HXK.out; omega)
              subst hx0
              exact hF
          · obtain ⟨k', rfl⟩ : ∃ k', k = k' + 1 := ⟨k - 1, by omega⟩
            have hks' : k' < s.length := by omega
            have hi' := hs3.out s[k'] (List.getElem_mem hks')
            have hpk' := (HBL.out.cell (p := ⟨w.heap.size + 1, k', none⟩) hglt2).trans (hc2.out k' hks')
            obtain ⟨j, hje⟩ : ∃ j, s[k'] = j := ⟨_, rfl⟩
            rw [hje] at hpk' hi'
            have hjj : (j : Int) < L.length := by omega
            have hkk : (k' : Int) < L.length := by omega
            have hwk : IntKind.i64.wrap (k' : Int) = (k' : Int) := by rw [IntKind.wrap_i64]; omega
            have hkb : (((k' + 1 : Nat) : Int) == 0) = false := beq_eq_false_iff_ne.2 (by omega)
            have hkb2 : ((k' : Int) + 1 == 0) = false := beq_eq_false_iff_ne.2 (by omega)
            have hLj : L.getD j default = L[j] := by simp [List.getD, hi']
            have hcf : cfL L j i = cmpS L[j] L[i] := by unfold cfL; rw [hLj, HS.out.1]
            obtain ⟨b, hb⟩ : ∃ b, (cmpS L[j] L[i] == 0) = b := ⟨_, rfl⟩
            have cM := fun (V : World) (hV : Below wr.heap.size wr V) => spot_SameI m hm1 (by omega) L[j] L[i] (HL.out.2.2 _ (List.getElem_mem hi')) HS.out.2 b hb V ((HOA.out _ (List.getElem_mem hi')).on hV) (HOK.out.on hV)
            have CM := quiet_of cM
            have z0 := cell_regrown hbx
            have z1 := cell_regrown hpk'
            have x0 := cell_regrown (HC.out j hi' 0 _ rfl)
            have y0 := cell_regrown (HC.out i hi 0 _ rfl)
            have x1 := cell_regrown (HC.out j hi' 1 _ rfl)
            have y1 := cell_regrown (HC.out i hi 1 _ rfl)
            have x2 := cell_regrown (HC.out j hi' 2 _ rfl)
            have y2 := cell_regrown (HC.out i hi 2 _ rfl)
            have x3 := cell_regrown (HC.out j hi' 3 _ rfl)
            have y3 := cell_regrown (HC.out i hi 3 _ rfl)
            have x4 := cell_regrown (HC.out j hi' 4 _ rfl)
            have y4 := cell_regrown (HC.out i hi 4 _ rfl)
            have x5 := cell_regrown (HC.out j hi' 5 _ rfl)
            have y5 := cell_regrown (HC.out i hi 5 _ rfl)
            simp only [Nat.add_zero] at x0 y0
            have HJ := Lib.hid (And.intro hje (And.intro hcf hb))
            clear cM hje hcf hb hLj hpk'
            go_wp2_with fail
            refine wp_region_quiet_below (by kernel_rfl) (by kernel_rfl) ?_
            quiet_step (fail)
            quiet_step (fail)
            quiet_step (fail)
            quiet_step (fail)
            quiet_step (fail)
            quiet_step (fail)
            quiet_step (fail)
            quiet_step (fail)
            quiet_step (fail)
            quiet_step (fail)
            quiet_step (fail)
            quiet_step (fail)
            quiet_step (fail)
            quiet_step (fail)
            quiet_step (fail)
            quiet_step (with_reducible exact CM _ _)
            quiet_step (fail)
            quiet_step (fail)
            refine wpQuiet_nil ?_
            intro _ hw'
            obtain ⟨⟨dq, osq⟩, hw''⟩ := hw'
            subst hw''
            obtain ⟨wq, hwq⟩ : ∃ x, grow (redrawn wr dq) osq = x := ⟨_, rfl⟩
            have Bq : Below wr.heap.size wr wq := by rw [← hwq]; exact below_regrown wr dq osq
            rw [hwq]
            have p0 := (Bq.cell (p := ⟨b0, o0 + i * 6 + 0, none⟩) hb0).trans (HC.out i hi 0 _ rfl)
            have p1 := (Bq.cell (p := ⟨b0, o0 + i * 6 + 1, none⟩) hb0).trans (HC.out i hi 1 _ rfl)
            have p2 := (Bq.cell (p := ⟨b0, o0 + i * 6 + 2, none⟩) hb0).trans (HC.out i hi 2 _ rfl)
            have p3 := (Bq.cell (p := ⟨b0, o0 + i * 6 + 3, none⟩) hb0).trans (HC.out i hi 3 _ rfl)
            have p4 := (Bq.cell (p := ⟨b0, o0 + i * 6 + 4, none⟩) hb0).trans (HC.out i hi 4 _ rfl)
            have p5 := (Bq.cell (p := ⟨b0, o0 + i * 6 + 5, none⟩) hb0).trans (HC.out i hi 5 _ rfl)
            have pb := (Bq.cell (p := ⟨w.heap.size, 0, none⟩) hglt).trans hbx
            simp only [Nat.add_zero] at p0
            have BQ := Lib.hid Bq
            clear hwq Bq
            clear CM z0 z1 x0 y0 x1 y1 x2 y2 x3 y3 x4 y4 x5 y5
            cases b with
            | true =>
              clear p0 p1 p2 p3 p4 p5
              go_wp2_with fail
              go_roundg (gk - 1)
              case measure => have := HG.out; omega
              case rel =>
                refine ⟨k' + 2, xs, by have := HG.out; omega, by go_num, HW.out.kept BQ.out, ?_, by omega, HBL.out.trans (BQ.out.mono HBL.out.size)⟩
                have hc := rows.cut_take (cf := cfL L) (s := s) (k := k') hks
                rw [HJ.out.1, HI.out, HJ.out.2.1, if_pos (eq_of_beq HJ.out.2.2), List.append_nil] at hc
                rw [hc]
                exact HF.out.imp fun _ kk => kk.on BQ.out
            | false =>
              have cC := spot_reducedI L m i hm1 (by omega) L[i] HS.out.1 HS.out.2 wq (HOK.out.on BQ.out)
              go_wp2_with fail
              refine cC.mono ?_
              rintro e w7 ⟨x, rfl, hix, hox, b7⟩
              clear cC
              have hIX := Lib.hid hix
              have hOX := Lib.hid hox
              have hB7 := Lib.hid (BQ.out.trans (b7.mono BQ.out.size))
              clear hix hox b7 p0 p1 p2 p3 p4 p5
              have hn7 : xs.length ≤ 1073741824 := by omega
              go_wp2_with (at_builtin; refine wpList_append_sp _ rfl _ _ rfl w2.heap.size _ xs.length (flat xs) rfl ((HW.out.kept hB7.out).kept (below_new w7 _)) ⟨w7.heap.size, 0, none⟩ x.cells rfl rfl (one_spot w7 x) (cells_one x) (cells_noint x) hn7 (by have := HBL.out.size; have := hB7.out.size; simp; omega) ?_; intro v8 w8 hown8 hgrow8; replace hown8 := Lib.hid hown8; replace hgrow8 := Lib.hid hgrow8)
              go_roundg (gk - 1)
              case measure => have := HG.out; omega
              case rel =>
                have h5 := (HW.out.kept hB7.out).kept (below_new w7 (.cells x.cells.toArray 41))
                have hbl : Below w2.heap.size w2 (w7.alloc (.cells x.cells.toArray 41)) := (HBL.out.trans (hB7.out.mono HBL.out.size)).alloc (Nat.le_trans HBL.out.size hB7.out.size) _
                refine ⟨k' + 2, xs ++ [x], by have := HG.out; omega, by go_num, by rw [flat_snoc, List.length_append]; exact hown8.out, ?_, by have := HXK.out; rw [List.length_append, List.length_singleton]; omega, hbl.grown hgrow8.out hbl.size (fun b e => (h5.lt b e).1)⟩
                have hF := ((((HF.out.imp fun _ kk => kk.on hB7.out).imp fun _ kk => kk.on (below_new w7 (.cells x.cells.toArray 41))).imp fun _ kk => h5.ok hgrow8.out kk)).snoc hIX.out (h5.ok hgrow8.out (hOX.out.on (below_new w7 (.cells x.cells.toArray 41))))
                have hc := rows.cut_take (cf := cfL L) (s := s) (k := k') hks
                rw [HJ.out.1, HI.out, HJ.out.2.1, if_neg (fun h => by have := HJ.out.2.2; rw [h] at this; cases this)] at hc
                rw [hc]
                exact hF
        · have hke : k = L.length := by have := HG.out; omega
          subst hke
          obtain ⟨p, cap5, rfl, hc5⟩ := hw5.any
          have htk : s.take L.length = s := List.take_of_length_le (by rw [hs1.out]; exact Nat.le_refl _)
          rw [htk] at hfit
          have HF := Lib.hid (And.intro hw5.reads (And.intro hfit (And.intro hbw (hw5.rowO (base' := w.heap.size) (by have := hB2.out.size; omega)))))
          clear hw5 hfit hbw hbl htk
          go_wp2_with fail
          go_ret
          exact ⟨s, hs2.out, hs3.out, hs4.out, p, xs.length, xs, rfl, Nat.le_refl _, HF.out.1, HF.out.2.1, HF.out.2.2.1, HF.out.2.2.2⟩
theorem spot_Row (L : List Sp) (A : Option Addr) (cap m : Nat) (w : World) (hm1 : 1 ≤ m) (hm : m + 1 ≤ 2097150) (hlen : L.length ≤ 1048576) (h0 : 0 < L.length) (hl : RdS w A L) (hok : ∀ s ∈ L, s.Ok w) (hsh : ∀ s ∈ L, s.Sh m) :
    Calls Tryz.prog 37 #[.slice A L.length cap] w fun e w' => ∃ s : List Nat, s.Pairwise (fun a b => cfL L a b ≤ 0) ∧ (∀ x ∈ s, x < L.length) ∧ (∀ i, i < L.length → i ∈ s) ∧ RowRd L (m + 1) (cut (cfL L) none s) w e w' := by
  refine (spot_RowO L A cap m w hm1 hm hlen h0 hl hok hsh).mono ?_
  rintro e w' ⟨s, h1, h2, h3, p, cp, xs, rfl, h4, h5, h6, h7, -⟩
  exact ⟨s, h1, h2, h3, p, cp, xs, rfl, h4, h5, h6, h7⟩

set_option maxRecDepth 100000 in
set_option maxHeartbeats 3200000 in
theorem spot_Row0 (A : Option Addr) (cap : Nat) (w : World) :
    Calls Tryz.prog 37 #[.slice A 0 cap] w fun e w' => ∃ p cp, e = .returned (.slice p 0 cp) ∧ Below w.heap.size w w' := by
  have hmk := make_places 0 (by omega)
  have hmk' : ∀ u : World, (Instr.makeSlice 86 (.int .i64 0) (.int .i64 0)).run Tryz.prog u = .ok (.slice (some ⟨u.heap.size, 0, none⟩) 0 0) (u.alloc (.cells #[] 3)) := fun u => by simpa [cells] using hmk u
  clear hmk
  go_enter Tryz.func37, Tryz.ntmps37
  go_wp2_with fail
  go_loopg [13] 0 (fun gh v13 wr => v13 = .int .i64 0 ∧ gh = 0 ∧ wr.cell? ⟨w.heap.size, 0, none⟩ = some (.slice A 0 cap) ∧ Below w.heap.size w wr)
  case atStart =>
    refine ⟨rfl, rfl, ?_, ((Below.refl _ w).alloc (Nat.le_refl _) _).alloc (by simp) _⟩
    rw [World.cell?_alloc_lt _ _ _ (by simp)]
    exact (Blk.new w 27 [.slice A 0 cap]).cell 0 rfl
  case round =>
    obtain ⟨rfl, rfl, hbox, hbel⟩ := hrel
    have HB := Lib.hid hbel
    clear hbel hmk'
    obtain ⟨u1, hmk2, hown, hgr, hsz3⟩ := make_spots 0 (by omega) wr wr.heap.size (Nat.le_refl _)
    have hmk3 : (Instr.makeSlice 27 (.int .i64 0) (.int .i64 0)).run Tryz.prog wr = .ok (.slice (some ⟨wr.heap.size, 0, none⟩) 0 0) u1 := hmk2
    have HG := Lib.hid hgr
    clear hown hgr hsz3 hmk2
    go_wp2_with fail
    refine Calls.mono (Tryz.slices_SortFunc_none (α := Nat) _ _ _ _) ?_
    rintro e w2 ⟨rfl, h2⟩
    subst h2
    go_wp2_with fail
    go_loopg [5, 29] 0 (fun gh v5 v29 wq => v5 = .slice (some ⟨w2.heap.size, 0, none⟩) 0 0 ∧ v29 = .int .i64 0 ∧ gh = 0 ∧ Below w.heap.size w wq)
    case atStart => exact ⟨rfl, rfl, rfl, HB.out.grown HG.out HB.out.size (fun b e => by cases e)⟩
    case round =>
      obtain ⟨rfl, rfl, rfl, hq⟩ := hrel
      have HQ := Lib.hid hq
      clear hq
      go_wp2_with fail
      go_ret
      exact ⟨_, _, rfl, HQ.out⟩
end Go.Proofs.YtdmoibphidipeaaGreatDoor
