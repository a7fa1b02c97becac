/- Rows of spots: the walk of the document's own Row. -/
import Derived.Test.YtokaapljlpngdaaGreatDoorMC
namespace Go.Proofs.YtokaapljlpngdaaGreatDoor
open Go.RowKit Num rows
open Go.Sort (grow)

/-- a row that a call hands back -/
def RowIs (L : List Sp) (M : Nat) (O : List Nat) (w : World) (e : Ending) (w' : World) : Prop :=
  ∃ v xs, e = .returned v ∧ OwnS w' w.heap.size v xs.length (flat xs) ∧ Fits L M w' O xs ∧ Below w.heap.size w w'
/-- the state of the inner loop: what stands in 'next' -/
def NextIs (L : List Sp) (M i : Nat) (O : List Nat) (k : Nat) (b : Bool) (wo wr : World) (v : Value) : Prop :=
  ∃ (Y : List Nat) (ys : List Sp), OwnS wr wo.heap.size v ys.length (flat ys) ∧ Fits L M wr Y ys ∧ Y ++ ins (cfL L) i (O.drop k) b = ins (cfL L) i O false ∧ ys.length ≤ 2 * k + 1
/-- what is carried along: the row that has been made, and what was handed in -/
def Held (L : List Sp) (M : Nat) (O : List Nat) (xs : List Sp) (A : Option Addr) (w wo wr : World) (v : Value) : Prop :=
  OwnS wr w.heap.size v xs.length (flat xs) ∧ Fits L M wr O xs ∧ RdS wr A L ∧ (∀ s ∈ L, s.Ok wr) ∧ Below wo.heap.size wo wr ∧ (∀ k, v.ownBlock = some k → k < wo.heap.size)
theorem Held.on {L : List Sp} {M : Nat} {O : List Nat} {xs : List Sp} {A : Option Addr} {w wo wr w' : World} {v : Value} (h : Held L M O xs A w wo wr v) (b : Below wr.heap.size wr w') : Held L M O xs A w wo w' v :=
  ⟨h.1.kept b, h.2.1.imp fun _ k => k.on b, h.2.2.1.on b, fun s hs => (h.2.2.2.1 s hs).on b, h.2.2.2.2.1.trans (b.mono h.2.2.2.2.1.size), h.2.2.2.2.2⟩
theorem NextIs.on {L : List Sp} {M i : Nat} {O : List Nat} {k : Nat} {b : Bool} {wo wr w' : World} {v : Value} (h : NextIs L M i O k b wo wr v) (hb : Below wr.heap.size wr w') : NextIs L M i O k b wo w' v := by
  obtain ⟨Y, ys, h1, h2, h3⟩ := h
  exact ⟨Y, ys, h1.kept hb, h2.imp fun _ k => k.on hb, h3⟩
/-- 'next' has grown: what was held is held -/
theorem Held.grown {L : List Sp} {M : Nat} {O : List Nat} {xs : List Sp} {A : Option Addr} {w wo wr w' : World} {v v5 : Value} {n : Nat} {ys : List Value} (h : Held L M O xs A w wo wr v) (h5 : OwnS wr wo.heap.size v5 n ys) (hg : wr.grownBy w' v5.ownBlock) (hA : ∀ b o, A = some ⟨b, o, none⟩ → 0 < L.length → b < wo.heap.size) : Held L M O xs A w wo w' v := by
  have hrow : ∀ k, v5.ownBlock = some k → wo.heap.size ≤ k := fun k hk => (h5.lt k hk).1
  refine ⟨h.1.other h.2.2.2.2.2 hrow hg, h.2.1.imp fun _ k => h5.ok hg k, fun hn => ?_, fun s hs => h5.ok hg (h.2.2.2.1 s hs), h.2.2.2.2.1.grown hg h.2.2.2.2.1.size hrow, h.2.2.2.2.2⟩
  obtain ⟨b, o, e, hb, hc⟩ := h.2.2.1 hn
  have hbo := hA b o e hn
  refine ⟨b, o, e, Nat.lt_of_lt_of_le hb hg.size, fun i hi j u hu => ?_⟩
  rw [← hc i hi j u hu]
  exact World.cell?_of_block (hg.block b hb (fun e2 => by have := hrow b e2.symm; omega))
/-- the cells of a held row -/
theorem Held.cells {L : List Sp} {M : Nat} {O : List Nat} {xs : List Sp} {A : Option Addr} {w wo wr : World} {g n cap : Nat} (h : Held L M O xs A w wo wr (.slice (some ⟨g, 0, none⟩) n cap)) (hn : n = xs.length) (k : Nat) (hk : k < xs.length) (j : Nat) (u : Value) (hj : j < 6) (hu : (xs[k].cells)[j]? = some u) : wr.cell? ⟨g, k * 6 + j, none⟩ = some u := by
  subst hn
  exact h.1.cell _ (flat_get xs k hk j u hj hu)
theorem OwnS.form {w : World} {base : Nat} {v : Value} {n : Nat} {xs : List Value} (h : OwnS w base v n xs) (hn : 0 < n) : ∃ g cap, v = .slice (some ⟨g, 0, none⟩) n cap ∧ n ≤ cap := by
  rcases h.2.2 with ⟨rfl, e⟩ | ⟨g, cap, cur, rfl, -, -, hc, -⟩
  · omega
  · exact ⟨g, cap, rfl, hc⟩
theorem OwnS.any {w : World} {base : Nat} {v : Value} {n : Nat} {xs : List Value} (h : OwnS w base v n xs) : ∃ A cap, v = .slice A n cap ∧ n ≤ cap := by
  rcases h.2.2 with ⟨rfl, rfl⟩ | ⟨g, cap, cur, rfl, -, -, hc, -⟩
  · exact ⟨none, 0, rfl, Nat.le_refl _⟩
  · exact ⟨_, cap, rfl, hc⟩

set_option maxRecDepth 100000 in
set_option maxHeartbeats 25600000 in
theorem ref5_Row (L : List Sp) (A : Option Addr) (cap m : Nat) (w : World) (hm : m + 1 ≤ 2097150) (hlen : L.length ≤ 1048576) (_hcap : L.length ≤ cap) (hl : RdS w A L) (hok : ∀ s ∈ L, s.Ok w) (hsh : ∀ s ∈ L, s.Sh m) :
    Calls Tryz.prog 5 #[.slice A L.length cap] w (RowIs L (m + 1) (rowR (cfL L) L.length) w) := by
  have hA : ∀ b o, A = some ⟨b, o, none⟩ → 0 < L.length → b < w.heap.size := fun b o e hn => by
    obtain ⟨b', o', e', hb, -⟩ := hl hn
    rw [e] at e'
    cases e'
    exact hb
  have HL := Lib.hid (And.intro hl (And.intro hok hsh))
  have HA := Lib.hid hA
  clear hl hok hsh hA
  go_enter Tryz.func5, Tryz.ntmps5
  go_wp2_with fail
  go_loopg [3, 4] L.length (fun gh v3 v4 wr => ∃ (i : Nat) (xs : List Sp), gh + i = L.length ∧ v4 = .int .i64 i ∧ OwnS wr w.heap.size v3 xs.length (flat xs) ∧ Fits L (m + 1) wr (rowR (cfL L) i) xs ∧ xs.length ≤ i ∧ Below w.heap.size w wr)
  case atStart => exact ⟨0, [], by omega, rfl, OwnS.nil _ _, Fits.nil _ _ _, Nat.le_refl _, Below.refl _ _⟩
  case round =>
    obtain ⟨i, xs, hg, rfl, hown, hfit, hxi, hbel⟩ := hrel
    obtain ⟨wo, hwo⟩ : ∃ x, x = wr := ⟨_, rfl⟩
    subst hwo
    obtain ⟨go, hgo⟩ : ∃ x, x = gk := ⟨_, rfl⟩
    subst hgo
    have HG := Lib.hid hg
    clear hg
    by_cases hlt : i < L.length
    · obtain ⟨O, hO⟩ : ∃ O, rowR (cfL L) i = O := ⟨_, rfl⟩
      rw [hO] at hfit
      obtain ⟨A3, cap3, rfl, hc3⟩ := hown.any
      have hheld0 : Held L (m + 1) O xs A w wo wo (.slice A3 xs.length cap3) := ⟨hown, hfit, HL.out.1.on hbel, fun s hs => (HL.out.2.1 s hs).on hbel, Below.refl _ _, fun k hk => (hown.lt k hk).2⟩
      have HO := Lib.hid hO
      have HB := Lib.hid hbel
      have HH := Lib.hid hheld0
      have HAW := Lib.hid (fun (b o : Nat) (e : A = some ⟨b, o, none⟩) (hn : 0 < L.length) => Nat.lt_of_lt_of_le (HA.out b o e hn) HB.out.size)
      have hx31 : xs.length ≤ 1048576 := by omega
      clear hO hown hfit hheld0 hbel
      go_wp2_with fail
      go_loopg [5, 6, 7] xs.length (fun gh v5 v6 v7 wr => ∃ (k : Nat) (b : Bool), gh + k = xs.length ∧ v7 = .int .i64 k ∧ v6 = .bool b ∧ NextIs L (m + 1) i O k b wo wr v5 ∧ Held L (m + 1) O xs A w wo wr (.slice A3 xs.length cap3))
      case atStart => exact ⟨0, false, by omega, rfl, rfl, ⟨[], [], OwnS.nil _ _, Fits.nil _ _ _, rfl, by simp⟩, HH.out⟩
      case round =>
        obtain ⟨k, b, hg2, rfl, rfl, hnext, hheld⟩ := hrel
        have HG2 := Lib.hid hg2
        clear hg2
        by_cases hk : k < xs.length
        · obtain ⟨Y, ys, h5, hY, hyk, hy2⟩ := hnext
          obtain ⟨A5, cap5, rfl, hc5⟩ := h5.any
          obtain ⟨g3, cap', e3, -⟩ := hheld.1.form (by omega)
          cases e3
          obtain ⟨b0, o0, rfl, hb0, hc0⟩ := hheld.2.2.1 (by omega)
          have hOk : k < O.length := by have := hheld.2.1.1; omega
          obtain ⟨hIs, hxo⟩ := hheld.2.1.2 k hOk hk
          have hcx := fun j u hj hu => hheld.cells rfl k hk j u hj hu
          have hcl := fun j u hu => hc0 i hlt j u hu
          have hLi : L.getD i default = L[i] := by simp [List.getD, hlt]
          have hsi := HL.out.2.2 _ (List.getElem_mem hlt)
          have hoi := hheld.2.2.2.1 _ (List.getElem_mem hlt)
          obtain ⟨z, hz⟩ : ∃ z, cfL L i O[k] = z := ⟨_, rfl⟩
          have hz' := hz
          unfold cfL cmpS at hz'
          have hz3 : z = -1 ∨ z = 0 ∨ z = 1 := by rw [← hz']; exact lex_three (sgn_three _) (sgn_three _)
          have hdrop : O.drop k = O[k] :: O.drop (k + 1) := List.drop_eq_getElem_cons hOk
          have cM := fun (V : World) (hV : Below wr.heap.size wr V) => rv_SCmp (m := m + 1) (by omega) (loD_pos _) (loD_pos _) (loD_pos _) (loD_pos _) L[i].n1 L[i].n2 xs[k].n1 xs[k].n2 L[i].a1 L[i].d1 L[i].a2 L[i].d2 xs[k].a1 xs[k].d1 xs[k].a2 xs[k].d2 L[i].A1 L[i].D1 L[i].A2 L[i].D2 xs[k].A1 xs[k].D1 xs[k].A2 xs[k].D2 L[i].c1 L[i].e1 L[i].c2 L[i].e2 xs[k].c1 xs[k].e1 xs[k].c2 xs[k].e2 V (hsi.1.toV.wide (by omega)) (hsi.2.toV.wide (by omega)) (hIs.1.toV (loD_pos _)) (hIs.2.toV (loD_pos _)) (hoi.1.1.on hV) (hoi.1.2.on hV) (hoi.2.1.on hV) (hoi.2.2.on hV) (hxo.1.1.on hV) (hxo.1.2.on hV) (hxo.2.1.on hV) (hxo.2.2.on hV)
          rw [hLi] at hz'
          simp only [hz'] at cM
          have hb0' := hb0
          have hg3 : g3 < wr.heap.size := (hheld.1.lt g3 rfl).2
          have x0 := cell_regrown (hcl 0 _ rfl)
          have y0 := cell_regrown (hcx 0 _ (by omega) rfl)
          have x1 := cell_regrown (hcl 1 _ rfl)
          have y1 := cell_regrown (hcx 1 _ (by omega) rfl)
          have x2 := cell_regrown (hcl 2 _ rfl)
          have y2 := cell_regrown (hcx 2 _ (by omega) rfl)
          have x3 := cell_regrown (hcl 3 _ rfl)
          have y3 := cell_regrown (hcx 3 _ (by omega) rfl)
          have x4 := cell_regrown (hcl 4 _ rfl)
          have y4 := cell_regrown (hcx 4 _ (by omega) rfl)
          have x5 := cell_regrown (hcl 5 _ rfl)
          have y5 := cell_regrown (hcx 5 _ (by omega) rfl)
          simp only [Nat.add_zero] at x0 y0
          have CM := quiet_of cM
          have hii : (i : Int) < L.length := by omega
          have hkk : (k : Int) < xs.length := by omega
          have HI := Lib.hid (And.intro hIs (And.intro hz (And.intro hdrop (And.intro hyk hz'))))
          have HS := Lib.hid (And.intro hLi hsi)
          have H5 := Lib.hid h5
          have HY := Lib.hid hY
          have HD := Lib.hid hheld
          have HC := Lib.hid (And.intro hcl hcx)
          have HX := Lib.hid hxo
          clear cM hIs hz hdrop hyk hLi hsi h5 hY hheld hcl hcx hxo hoi hc0 hz'
          go_wp2_with fail
          refine wp_region_quiet_below (by kernel_rfl) (by kernel_rfl) ?_
          quiet_step (fail)
          quiet_step (fail)
          quiet_step (fail)
          quiet_step (fail)
          quiet_step (fail)
          quiet_step (fail)
          quiet_step (fail)
          quiet_step (fail)
          quiet_step (with_reducible exact CM _ _)
          quiet_step (fail)
          refine wpQuiet_nil ?_
          intro _ hw'
          obtain ⟨⟨dq, osq⟩, hw''⟩ := hw'
          subst hw''
          obtain ⟨wq, hwq⟩ : ∃ x, grow (redrawn wr dq) osq = x := ⟨_, rfl⟩
          have Bq : Below wr.heap.size wr wq := by rw [← hwq]; exact below_regrown wr dq osq
          rw [hwq]
          have hcl := HC.out.1
          have hcx := HC.out.2
          have p0 := ((Bq).cell (p := ⟨b0, o0 + i * 6 + 0, none⟩) hb0).trans (hcl 0 _ rfl)
          have p1 := ((Bq).cell (p := ⟨b0, o0 + i * 6 + 1, none⟩) hb0).trans (hcl 1 _ rfl)
          have p2 := ((Bq).cell (p := ⟨b0, o0 + i * 6 + 2, none⟩) hb0).trans (hcl 2 _ rfl)
          have p3 := ((Bq).cell (p := ⟨b0, o0 + i * 6 + 3, none⟩) hb0).trans (hcl 3 _ rfl)
          have p4 := ((Bq).cell (p := ⟨b0, o0 + i * 6 + 4, none⟩) hb0).trans (hcl 4 _ rfl)
          have p5 := ((Bq).cell (p := ⟨b0, o0 + i * 6 + 5, none⟩) hb0).trans (hcl 5 _ rfl)
          have q0 := ((Bq).cell (p := ⟨g3, k * 6 + 0, none⟩) hg3).trans (hcx 0 _ (by omega) rfl)
          have q1 := ((Bq).cell (p := ⟨g3, k * 6 + 1, none⟩) hg3).trans (hcx 1 _ (by omega) rfl)
          have q2 := ((Bq).cell (p := ⟨g3, k * 6 + 2, none⟩) hg3).trans (hcx 2 _ (by omega) rfl)
          have q3 := ((Bq).cell (p := ⟨g3, k * 6 + 3, none⟩) hg3).trans (hcx 3 _ (by omega) rfl)
          have q4 := ((Bq).cell (p := ⟨g3, k * 6 + 4, none⟩) hg3).trans (hcx 4 _ (by omega) rfl)
          have q5 := ((Bq).cell (p := ⟨g3, k * 6 + 5, none⟩) hg3).trans (hcx 5 _ (by omega) rfl)
          simp only [Nat.add_zero] at p0 q0
          have BQ := Lib.hid Bq
          clear hwq CM hcl hcx Bq x0 y0 x1 y1 x2 y2 x3 y3 x4 y4 x5 y5
          rcases hz3 with rfl | rfl | rfl
          · cases b
            · skip
              have cC := ref5_cleanI L m i (by omega) L[i] HS.out.1 HS.out.2 wq (((HD.out).2.2.2.1 _ (List.getElem_mem hlt)).on BQ.out)
              go_wp2_with fail
              refine cC.mono ?_
              rintro e w2 ⟨x, rfl, hix, hox, b2⟩
              clear cC
              have hIX := Lib.hid hix
              have hOX := Lib.hid hox
              have hB2 := Lib.hid (BQ.out.trans (b2.mono BQ.out.size))
              have h5a := (H5.out).kept hB2.out
              have h5b := Lib.hid h5a
              clear hix hox h5a b2 p0 q0 p1 q1 p2 q2 p3 q3 p4 q4 p5 q5
              have hn7 : ys.length ≤ 1073741824 := by omega
              have hn8 : ((ys ++ [x])).length ≤ 1073741824 := by simp; omega
              go_wp2_with (at_builtin; first
                | (refine wpList_append_sp _ rfl _ _ rfl wo.heap.size _ ys.length (flat ys) rfl (h5b.out.kept (below_new w2 _)) ⟨w2.heap.size, 0, none⟩ x.cells rfl rfl (one_spot w2 x) (cells_one x) (cells_noint x) hn7 (by have := ((HD.out).on hB2.out).2.2.2.2.1.size; simp; omega) ?_
                   intro v7 w7 hown7 hgrow7
                   have h5' := h5b.out.kept (below_new w2 (.cells x.cells.toArray 31))
                   have hD7 := (((HD.out).on hB2.out).on (below_new w2 (.cells x.cells.toArray 31))).grown h5' hgrow7 HAW.out
                   have h57 : OwnS w7 wo.heap.size v7 (ys ++ [x]).length (flat (ys ++ [x])) := by rw [flat_snoc, List.length_append]; exact hown7
                   have hY7 : Fits L (m + 1) w7 (Y ++ [i]) (ys ++ [x]) := ((((HY.out).imp fun _ kk => kk.on hB2.out).imp fun _ kk => kk.on (below_new w2 (.cells x.cells.toArray 31))).imp fun _ kk => h5'.ok hgrow7 kk).snoc hIX.out (h5'.ok hgrow7 (hOX.out.on (below_new w2 (.cells x.cells.toArray 31))))
                   have hX7 : xs[k].Ok w7 := h5'.ok hgrow7 ((HX.out.on hB2.out).on (below_new w2 (.cells x.cells.toArray 31)))
                   have q0 := hD7.cells rfl k hk 0 _ (by omega) rfl
                   have q1 := hD7.cells rfl k hk 1 _ (by omega) rfl
                   have q2 := hD7.cells rfl k hk 2 _ (by omega) rfl
                   have q3 := hD7.cells rfl k hk 3 _ (by omega) rfl
                   have q4 := hD7.cells rfl k hk 4 _ (by omega) rfl
                   have q5 := hD7.cells rfl k hk 5 _ (by omega) rfl
                   simp only [Nat.add_zero] at q0
                   have HD7 := Lib.hid hD7
                   have H57 := Lib.hid h57
                   have HY7 := Lib.hid hY7
                   have HX7 := Lib.hid hX7
                   clear h5' hD7 h57 hY7 hX7 hown7 hgrow7)
                | (refine wpList_append_sp _ rfl _ _ rfl wo.heap.size _ ((ys ++ [x])).length (flat ((ys ++ [x]))) rfl ((H57.out).kept (below_new w7 _)) ⟨w7.heap.size, 0, none⟩ xs[k].cells rfl rfl (one_spot w7 xs[k]) (cells_one xs[k]) (cells_noint xs[k]) hn8 (by have := (HD7.out).2.2.2.2.1.size; simp; omega) ?_; intro v8 w8 hown8 hgrow8; have hown8 := Lib.hid hown8; have hgrow8 := Lib.hid hgrow8; clear q0 q1 q2 q3 q4 q5))
              go_roundg (gk - 1)
              case measure => have := HG2.out; omega
              case rel =>
                have hD := (HD7.out).on (below_new w7 (.cells xs[k].cells.toArray 31))
                have h5' := (H57.out).kept (below_new w7 (.cells xs[k].cells.toArray 31))
                have hD' := hD.grown h5' hgrow8.out HAW.out
                refine ⟨k + 1, true, by have := HG2.out; omega, by go_num, rfl, ⟨(Y ++ [i]) ++ [O[k]], (ys ++ [x]) ++ [xs[k]], by rw [flat_snoc, List.length_append]; exact hown8.out, (((HY7.out).imp fun _ kk => kk.on (below_new w7 (.cells xs[k].cells.toArray 31))).imp fun _ kk => h5'.ok hgrow8.out kk).snoc HI.out.1 (h5'.ok hgrow8.out ((HX7.out).on (below_new w7 (.cells xs[k].cells.toArray 31)))), ?_, by simp; omega⟩, hD'⟩
                have hh := HI.out.2.2.2.1
                rw [HI.out.2.2.1] at hh
                refine Eq.trans ?_ hh
                conv => rhs; unfold ins
                rw [if_pos ⟨by rw [HI.out.2.1]; omega, rfl⟩]
                simp
            · skip
              clear p0 p1 p2 p3 p4 p5
              have hn8 : (ys).length ≤ 1073741824 := by omega
              go_wp2_with (at_builtin; refine wpList_append_sp _ rfl _ _ rfl wo.heap.size _ (ys).length (flat (ys)) rfl (((H5.out).kept BQ.out).kept (below_new wq _)) ⟨wq.heap.size, 0, none⟩ xs[k].cells rfl rfl (one_spot wq xs[k]) (cells_one xs[k]) (cells_noint xs[k]) hn8 (by have := ((HD.out).on BQ.out).2.2.2.2.1.size; simp; omega) ?_; intro v8 w8 hown8 hgrow8; have hown8 := Lib.hid hown8; have hgrow8 := Lib.hid hgrow8; clear q0 q1 q2 q3 q4 q5)
              go_roundg (gk - 1)
              case measure => have := HG2.out; omega
              case rel =>
                have hD := ((HD.out).on BQ.out).on (below_new wq (.cells xs[k].cells.toArray 31))
                have h5' := ((H5.out).kept BQ.out).kept (below_new wq (.cells xs[k].cells.toArray 31))
                have hD' := hD.grown h5' hgrow8.out HAW.out
                refine ⟨k + 1, true, by have := HG2.out; omega, by go_num, rfl, ⟨Y ++ [O[k]], ys ++ [xs[k]], by rw [flat_snoc, List.length_append]; exact hown8.out, ((((HY.out).imp fun _ kk => kk.on BQ.out).imp fun _ kk => kk.on (below_new wq (.cells xs[k].cells.toArray 31))).imp fun _ kk => h5'.ok hgrow8.out kk).snoc HI.out.1 (h5'.ok hgrow8.out ((HX.out.on BQ.out).on (below_new wq (.cells xs[k].cells.toArray 31)))), ?_, by simp; omega⟩, hD'⟩
                have hh := HI.out.2.2.2.1
                rw [HI.out.2.2.1] at hh
                refine Eq.trans ?_ hh
                conv => rhs; unfold ins
                rw [if_neg (by simp), if_neg (by intro h; rw [HI.out.2.1] at h; omega)]
                simp
          · cases b
            · skip
              clear p0 p1 p2 p3 p4 p5
              have hn8 : (ys).length ≤ 1073741824 := by omega
              go_wp2_with (at_builtin; refine wpList_append_sp _ rfl _ _ rfl wo.heap.size _ (ys).length (flat (ys)) rfl (((H5.out).kept BQ.out).kept (below_new wq _)) ⟨wq.heap.size, 0, none⟩ xs[k].cells rfl rfl (one_spot wq xs[k]) (cells_one xs[k]) (cells_noint xs[k]) hn8 (by have := ((HD.out).on BQ.out).2.2.2.2.1.size; simp; omega) ?_; intro v8 w8 hown8 hgrow8; have hown8 := Lib.hid hown8; have hgrow8 := Lib.hid hgrow8; clear q0 q1 q2 q3 q4 q5)
              go_roundg (gk - 1)
              case measure => have := HG2.out; omega
              case rel =>
                have hD := ((HD.out).on BQ.out).on (below_new wq (.cells xs[k].cells.toArray 31))
                have h5' := ((H5.out).kept BQ.out).kept (below_new wq (.cells xs[k].cells.toArray 31))
                have hD' := hD.grown h5' hgrow8.out HAW.out
                refine ⟨k + 1, true, by have := HG2.out; omega, by go_num, rfl, ⟨Y ++ [O[k]], ys ++ [xs[k]], by rw [flat_snoc, List.length_append]; exact hown8.out, ((((HY.out).imp fun _ kk => kk.on BQ.out).imp fun _ kk => kk.on (below_new wq (.cells xs[k].cells.toArray 31))).imp fun _ kk => h5'.ok hgrow8.out kk).snoc HI.out.1 (h5'.ok hgrow8.out ((HX.out.on BQ.out).on (below_new wq (.cells xs[k].cells.toArray 31)))), ?_, by simp; omega⟩, hD'⟩
                have hh := HI.out.2.2.2.1
                rw [HI.out.2.2.1] at hh
                refine Eq.trans ?_ hh
                conv => rhs; unfold ins
                rw [if_neg (by rintro ⟨h, -⟩; rw [HI.out.2.1] at h; omega), if_pos HI.out.2.1]
                simp
            · skip
              clear p0 p1 p2 p3 p4 p5
              have hn8 : (ys).length ≤ 1073741824 := by omega
              go_wp2_with (at_builtin; refine wpList_append_sp _ rfl _ _ rfl wo.heap.size _ (ys).length (flat (ys)) rfl (((H5.out).kept BQ.out).kept (below_new wq _)) ⟨wq.heap.size, 0, none⟩ xs[k].cells rfl rfl (one_spot wq xs[k]) (cells_one xs[k]) (cells_noint xs[k]) hn8 (by have := ((HD.out).on BQ.out).2.2.2.2.1.size; simp; omega) ?_; intro v8 w8 hown8 hgrow8; have hown8 := Lib.hid hown8; have hgrow8 := Lib.hid hgrow8; clear q0 q1 q2 q3 q4 q5)
              go_roundg (gk - 1)
              case measure => have := HG2.out; omega
              case rel =>
                have hD := ((HD.out).on BQ.out).on (below_new wq (.cells xs[k].cells.toArray 31))
                have h5' := ((H5.out).kept BQ.out).kept (below_new wq (.cells xs[k].cells.toArray 31))
                have hD' := hD.grown h5' hgrow8.out HAW.out
                refine ⟨k + 1, true, by have := HG2.out; omega, by go_num, rfl, ⟨Y ++ [O[k]], ys ++ [xs[k]], by rw [flat_snoc, List.length_append]; exact hown8.out, ((((HY.out).imp fun _ kk => kk.on BQ.out).imp fun _ kk => kk.on (below_new wq (.cells xs[k].cells.toArray 31))).imp fun _ kk => h5'.ok hgrow8.out kk).snoc HI.out.1 (h5'.ok hgrow8.out ((HX.out.on BQ.out).on (below_new wq (.cells xs[k].cells.toArray 31)))), ?_, by simp; omega⟩, hD'⟩
                have hh := HI.out.2.2.2.1
                rw [HI.out.2.2.1] at hh
                refine Eq.trans ?_ hh
                conv => rhs; unfold ins
                rw [if_neg (by rintro ⟨h, -⟩; rw [HI.out.2.1] at h; omega), if_pos HI.out.2.1]
                simp
          · cases b
            · skip
              clear p0 p1 p2 p3 p4 p5
              have hn8 : (ys).length ≤ 1073741824 := by omega
              go_wp2_with (at_builtin; refine wpList_append_sp _ rfl _ _ rfl wo.heap.size _ (ys).length (flat (ys)) rfl (((H5.out).kept BQ.out).kept (below_new wq _)) ⟨wq.heap.size, 0, none⟩ xs[k].cells rfl rfl (one_spot wq xs[k]) (cells_one xs[k]) (cells_noint xs[k]) hn8 (by have := ((HD.out).on BQ.out).2.2.2.2.1.size; simp; omega) ?_; intro v8 w8 hown8 hgrow8; have hown8 := Lib.hid hown8; have hgrow8 := Lib.hid hgrow8; clear q0 q1 q2 q3 q4 q5)
              go_roundg (gk - 1)
              case measure => have := HG2.out; omega
              case rel =>
                have hD := ((HD.out).on BQ.out).on (below_new wq (.cells xs[k].cells.toArray 31))
                have h5' := ((H5.out).kept BQ.out).kept (below_new wq (.cells xs[k].cells.toArray 31))
                have hD' := hD.grown h5' hgrow8.out HAW.out
                refine ⟨k + 1, false, by have := HG2.out; omega, by go_num, rfl, ⟨Y ++ [O[k]], ys ++ [xs[k]], by rw [flat_snoc, List.length_append]; exact hown8.out, ((((HY.out).imp fun _ kk => kk.on BQ.out).imp fun _ kk => kk.on (below_new wq (.cells xs[k].cells.toArray 31))).imp fun _ kk => h5'.ok hgrow8.out kk).snoc HI.out.1 (h5'.ok hgrow8.out ((HX.out.on BQ.out).on (below_new wq (.cells xs[k].cells.toArray 31)))), ?_, by simp; omega⟩, hD'⟩
                have hh := HI.out.2.2.2.1
                rw [HI.out.2.2.1] at hh
                refine Eq.trans ?_ hh
                conv => rhs; unfold ins
                rw [if_neg (by rintro ⟨h, -⟩; rw [HI.out.2.1] at h; omega), if_neg (by intro h; rw [HI.out.2.1] at h; omega)]
                simp
            · skip
              clear p0 p1 p2 p3 p4 p5
              have hn8 : (ys).length ≤ 1073741824 := by omega
              go_wp2_with (at_builtin; refine wpList_append_sp _ rfl _ _ rfl wo.heap.size _ (ys).length (flat (ys)) rfl (((H5.out).kept BQ.out).kept (below_new wq _)) ⟨wq.heap.size, 0, none⟩ xs[k].cells rfl rfl (one_spot wq xs[k]) (cells_one xs[k]) (cells_noint xs[k]) hn8 (by have := ((HD.out).on BQ.out).2.2.2.2.1.size; simp; omega) ?_; intro v8 w8 hown8 hgrow8; have hown8 := Lib.hid hown8; have hgrow8 := Lib.hid hgrow8; clear q0 q1 q2 q3 q4 q5)
              go_roundg (gk - 1)
              case measure => have := HG2.out; omega
              case rel =>
                have hD := ((HD.out).on BQ.out).on (below_new wq (.cells xs[k].cells.toArray 31))
                have h5' := ((H5.out).kept BQ.out).kept (below_new wq (.cells xs[k].cells.toArray 31))
                have hD' := hD.grown h5' hgrow8.out HAW.out
                refine ⟨k + 1, true, by have := HG2.out; omega, by go_num, rfl, ⟨Y ++ [O[k]], ys ++ [xs[k]], by rw [flat_snoc, List.length_append]; exact hown8.out, ((((HY.out).imp fun _ kk => kk.on BQ.out).imp fun _ kk => kk.on (below_new wq (.cells xs[k].cells.toArray 31))).imp fun _ kk => h5'.ok hgrow8.out kk).snoc HI.out.1 (h5'.ok hgrow8.out ((HX.out.on BQ.out).on (below_new wq (.cells xs[k].cells.toArray 31)))), ?_, by simp; omega⟩, hD'⟩
                have hh := HI.out.2.2.2.1
                rw [HI.out.2.2.1] at hh
                refine Eq.trans ?_ hh
                conv => rhs; unfold ins
                rw [if_neg (by rintro ⟨h, -⟩; rw [HI.out.2.1] at h; omega), if_neg (by intro h; rw [HI.out.2.1] at h; omega)]
                simp
        · have hke : k = xs.length := by have := HG2.out; omega
          subst hke
          obtain ⟨Y, ys, h5, hY, hyk, hy2⟩ := hnext
          have hdr : O.drop xs.length = [] := List.drop_eq_nil_of_le (by have := hheld.2.1.1; omega)
          rw [hdr] at hyk
          have hrow : rowR (cfL L) (i + 1) = ins (cfL L) i O false := by rw [← HO.out]; rfl
          have hrl := rowR_length (cf := cfL L) (i + 1)
          have hbw : Below w.heap.size w wr := HB.out.trans (hheld.2.2.2.2.1.mono HB.out.size)
          cases b
          · obtain ⟨b0, o0, rfl, hb0, hc0⟩ := hheld.2.2.1 (by omega)
            have hLi : L.getD i default = L[i] := by simp [List.getD, hlt]
            have hsi := HL.out.2.2 _ (List.getElem_mem hlt)
            have hoi := hheld.2.2.2.1 _ (List.getElem_mem hlt)
            have cC := ref5_cleanI L m i (by omega) L[i] hLi hsi wr hoi
            have p0 := hc0 i hlt 0 _ rfl
            have p1 := hc0 i hlt 1 _ rfl
            have p2 := hc0 i hlt 2 _ rfl
            have p3 := hc0 i hlt 3 _ rfl
            have p4 := hc0 i hlt 4 _ rfl
            have p5 := hc0 i hlt 5 _ rfl
            simp only [Nat.add_zero] at p0
            have hii : (i : Int) < L.length := by omega
            have H5 := Lib.hid h5
            have HY := Lib.hid hY
            have HD := Lib.hid hheld
            have HE := Lib.hid (And.intro hyk (And.intro hrow (And.intro hrl hbw)))
            clear h5 hY hheld hyk hrow hrl hdr hLi hsi hoi hc0 hbw
            go_wp2_with fail
            refine cC.mono ?_
            rintro e w2 ⟨x, rfl, hix, hox, b2⟩
            clear cC
            have hIX := Lib.hid hix
            have hOX := Lib.hid hox
            have hB2 := Lib.hid b2
            clear hix hox b2 p0 p1 p2 p3 p4 p5
            have hn7 : ys.length ≤ 1073741824 := by omega
            go_wp2_with (at_builtin; refine wpList_append_sp _ rfl _ _ rfl wo.heap.size _ ys.length (flat ys) rfl ((H5.out.kept hB2.out).kept (below_new w2 _)) ⟨w2.heap.size, 0, none⟩ x.cells rfl rfl (one_spot w2 x) (cells_one x) (cells_noint x) hn7 (by have := ((HD.out).on hB2.out).2.2.2.2.1.size; simp; omega) ?_; intro v7 w7 hown7 hgrow7; have hown7 := Lib.hid hown7; have hgrow7 := Lib.hid hgrow7)
            go_roundg (go - 1)
            case measure => have := HG.out; omega
            case rel =>
              have h5' := (H5.out.kept hB2.out).kept (below_new w2 (.cells x.cells.toArray 31))
              have hD7 := (((HD.out).on hB2.out).on (below_new w2 (.cells x.cells.toArray 31))).grown h5' hgrow7.out HAW.out
              have hY7 : Fits L (m + 1) w7 (Y ++ [i]) (ys ++ [x]) := ((((HY.out).imp fun _ kk => kk.on hB2.out).imp fun _ kk => kk.on (below_new w2 (.cells x.cells.toArray 31))).imp fun _ kk => h5'.ok hgrow7.out kk).snoc hIX.out (h5'.ok hgrow7.out (hOX.out.on (below_new w2 (.cells x.cells.toArray 31))))
              have hYe : Y ++ [i] = rowR (cfL L) (i + 1) := by rw [HE.out.2.1, ← HE.out.1]; rfl
              rw [hYe] at hY7
              refine ⟨i + 1, ys ++ [x], by have := HG.out; omega, by go_num, ?_, hY7, ?_, HB.out.trans (hD7.2.2.2.2.1.mono HB.out.size)⟩
              · rw [flat_snoc, List.length_append]; exact hown7.out.mono HB.out.size
              · have := hY7.1; have := HE.out.2.2.1; omega
          · have HE := Lib.hid (And.intro h5 (And.intro hY (And.intro hyk (And.intro hrow (And.intro hrl hbw)))))
            clear h5 hY hheld hyk hrow hrl hdr hbw
            go_wp2_with fail
            go_roundg (go - 1)
            case measure => have := HG.out; omega
            case rel =>
              obtain ⟨h5, hY, hyk, hrow, hrl, hbw⟩ := HE.out
              have hYe : Y = rowR (cfL L) (i + 1) := by rw [hrow, ← hyk]; simp [ins]
              rw [hYe] at hY
              exact ⟨i + 1, ys, by have := HG.out; omega, by go_num, h5.mono HB.out.size, hY, by have := hY.1; omega, hbw⟩
    · have hi : i = L.length := by have := HG.out; omega
      subst hi
      go_wp2_with fail
      go_ret
      exact ⟨_, xs, rfl, hown, hfit, hbel⟩
end Go.Proofs.YtokaapljlpngdaaGreatDoor
