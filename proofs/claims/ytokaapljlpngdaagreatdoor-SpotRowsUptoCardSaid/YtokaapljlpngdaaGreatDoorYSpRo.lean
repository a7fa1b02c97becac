/- Rows of spots: the walk of the program's own Row. -/
import Derived.Test.YtokaapljlpngdaaGreatDoorYSpZ
import Derived.Test.YtokaapljlpngdaaGreatDoorYSpQ1
namespace Go.Proofs.YtokaapljlpngdaaGreatDoor
open Go.RowKit Num rows
open Go.Sort (grow)

/-- a row that a call hands back, as it is read -/
def RowRd (L : List Sp) (M : Nat) (O : List Nat) (w : World) (e : Ending) (w' : World) : Prop :=
  ∃ p cap xs, e = .returned (.slice p (List.length xs) cap) ∧ xs.length ≤ cap ∧ RdS w' p xs ∧ Fits L M w' O xs ∧ Below w.heap.size w w'
theorem OwnS.reads {w : World} {base : Nat} {p : Option Addr} {cap : Nat} {xs : List Sp} (h : OwnS w base (.slice p xs.length cap) xs.length (flat xs)) : RdS w p xs := fun hn => by
  obtain ⟨g, cap', e, -⟩ := h.form hn
  cases e
  refine ⟨g, 0, rfl, (h.lt g rfl).2, fun i hi j u hu => ?_⟩
  have hj : j < 6 := by
    have := (List.getElem?_eq_some_iff.1 hu).1
    rwa [cells_len] at this
  rw [Nat.zero_add]
  exact h.cell _ (flat_get xs i hi j u hj hu)
theorem RowIs.reads {L : List Sp} {M : Nat} {O : List Nat} {w w' : World} {e : Ending} (h : RowIs L M O w e w') : RowRd L M O w e w' := by
  obtain ⟨v, xs, rfl, ho, hf, hb⟩ := h
  obtain ⟨p, cap, rfl, hc⟩ := ho.any
  exact ⟨p, cap, xs, rfl, hc, ho.reads, hf, hb⟩

set_option maxRecDepth 100000 in
set_option maxHeartbeats 25600000 in
theorem spot_Row (L : List Sp) (A : Option Addr) (cap m : Nat) (w : World) (hm1 : 1 ≤ m) (hm : m + 1 ≤ 2097150) (hlen : L.length ≤ 1048576) (h0 : 0 < L.length) (hl : RdS w A L) (hok : ∀ s ∈ L, s.Ok w) (hsh : ∀ s ∈ L, s.Sh m) :
    Calls Tryz.prog 4 #[.slice A L.length cap] w fun e w' => ∃ s : List Nat, s.Pairwise (fun a b => cfL L a b ≤ 0) ∧ (∀ x ∈ s, x < L.length) ∧ (∀ i, i < L.length → i ∈ s) ∧ RowRd L (m + 1) (cut (cfL L) none s) w e w' := by
  obtain ⟨n', hn'⟩ : ∃ n', L.length = n' + 1 := ⟨L.length - 1, by omega⟩
  have hmk := make_places L.length (by omega)
  have HL := Lib.hid (And.intro hl (And.intro hok hsh))
  have HN := Lib.hid hn'
  clear hl hok hsh hn'
  go_enter Tryz.func4, Tryz.ntmps4
  go_wp2_with fail
  go_loopg [13] L.length (fun gh v13 wr => ∃ (i : Nat) (cs : List Nat), v13 = .int .i64 i ∧ gh + i = L.length ∧ cs.length = L.length ∧ (∀ j (h : j < cs.length), j < i → cs[j] = j) ∧ Row wr (w.heap.size + 1) 3 .i64 cs ∧ wr.cell? ⟨w.heap.size, 0, none⟩ = some (.slice A L.length cap) ∧ Below w.heap.size w wr ∧ wr.heap.size = w.heap.size + 2)
  case atStart =>
    refine ⟨0, List.replicate L.length 0, rfl, by omega, by simp, fun j _ h => by omega, Row.at_new _ _ _ _ (by simp), ?_, ((Below.refl _ w).alloc (Nat.le_refl _) _).alloc (by simp) _, by simp⟩
    rw [World.cell?_alloc_lt _ _ _ (by simp)]
    exact (Blk.new w 22 [.slice A L.length cap]).cell 0 rfl
  case round =>
    obtain ⟨i, cs, rfl, hg, hcl, hcs, hrow, hbox, hbel, hsz⟩ := hrel
    have HC := Lib.hid hcs
    have HG1 := Lib.hid (And.intro hg hcl)
    have HR := Lib.hid hrow
    have HB := Lib.hid hbel
    have HX := Lib.hid hbox
    by_cases hi : i < L.length
    · obtain ⟨c0, hcell⟩ : ∃ c, wr.cell? ⟨w.heap.size + 1, i, none⟩ = some (.int .i64 c) := ⟨_, hrow.cell (i := i) (by omega)⟩
      have hfr := hrow.frozen i
      clear hcs hrow hbel hbox hg
      go_wp2_with fail
      go_roundg (gk - 1)
      case measure => have := HG1.out.1; omega
      case rel =>
        refine ⟨i + 1, cs.set i i, by go_num, by have := HG1.out.1; omega, by rw [List.length_set]; exact HG1.out.2, fun j h1 h2 => ?_, HR.out.set i i, ?_, HB.out.setCell (p := ⟨w.heap.size + 1, i, none⟩) (by simp) _, by simp [hsz]⟩
        · rw [List.getElem_set]
          split
          · assumption
          · exact HC.out j (by simpa using h1) (by omega)
        · rw [World.cell?_of_block (w := wr) (Below.heap_setCell wr ⟨w.heap.size + 1, i, none⟩ _ w.heap.size (by simp))]
          exact HX.out
    · have hie : i = L.length := by omega
      subst hie
      have hcells : ∀ j, j < n' + 1 → wr.cell? ⟨w.heap.size + 1, j, none⟩ = some (.int .i64 (j : Int)) ∧ wr.frozen? ⟨w.heap.size + 1, j, none⟩ = false := fun j hj => by
        have hn' := HN.out
        have h1 := hrow.cell (i := j) (by omega)
        rw [hcs j (by omega) (by omega)] at h1
        exact ⟨h1, hrow.frozen j⟩
      have hsort := sort_places L n' HN.out A cap w.heap.size m (w.heap.size + 1) L.length w wr hm1 (by omega) hbel (by omega) (by omega) (by omega) (by omega) hbox HL.out.1 HL.out.2.1 HL.out.2.2 (by omega) hcells
      have HSO := Lib.hid hsort
      clear hsort hcells hcs hrow hbel hbox hmk
      go_wp2_with (go_at_call 8; with_reducible refine Calls.mono HSO.out ?_; rintro e w2 ⟨rfl, s, hs1, hs2, hs3, hs4, hB2, hsz2, hbox2, hc2⟩; obtain ⟨u1, hmk2, hown, hgr, hsz3⟩ := make_spots L.length (by omega) w2 w2.heap.size (Nat.le_refl _); replace hs1 := Lib.hid hs1; replace hs2 := Lib.hid hs2; replace hs3 := Lib.hid hs3; replace hs4 := Lib.hid hs4; replace hB2 := Lib.hid hB2; replace hc2 := Lib.hid hc2; replace hown := Lib.hid hown; replace hgr := Lib.hid hgr; have HX2 := Lib.hid hbox2)
      have hglt2 : w.heap.size + 1 < w2.heap.size := by omega
      go_loopg [5, 29] L.length (fun gh v5 v29 wr => ∃ (k : Nat) (xs : List Sp), gh + k = L.length ∧ v29 = .int .i64 k ∧ OwnS wr w2.heap.size v5 xs.length (flat xs) ∧ Fits L (m + 1) wr (cut (cfL L) none (s.take k)) xs ∧ xs.length ≤ k ∧ Below w2.heap.size w2 wr)
      case atStart => exact ⟨0, [], by omega, rfl, hown.out, Fits.nil _ _ _, Nat.le_refl _, (Below.refl _ _).grown hgr.out (Nat.le_refl _) (fun b e => by cases e)⟩
      case round =>
        obtain ⟨k, xs, hg2, rfl, hw5, hfit, hxk, hbl⟩ := hrel
        have HG := Lib.hid hg2
        clear hg2
        have hbw := hB2.out.trans (hbl.mono hB2.out.size)
        by_cases hk : k < L.length
        · have hks : k < s.length := by rw [hs1.out]; exact hk
          have hi := hs3.out s[k] (List.getElem_mem hks)
          have hpk := (hbl.cell (p := ⟨w.heap.size + 1, k, none⟩) hglt2).trans (hc2.out k hks)
          obtain ⟨i, hie⟩ : ∃ i, s[k] = i := ⟨_, rfl⟩
          rw [hie] at hpk hi
          have hbx := (hbl.cell (p := ⟨w.heap.size, 0, none⟩) (by show w.heap.size < w2.heap.size; omega)).trans HX2.out
          have hglt : w.heap.size < wr.heap.size := by have := hbl.size; omega
          obtain ⟨b0, o0, rfl, hb0, hc0⟩ := (HL.out.1.on hbw) (by omega)
          obtain ⟨A5, cap5, rfl, hc5⟩ := hw5.any
          have hLi : L.getD i default = L[i] := by simp [List.getD, hi]
          have hsi := HL.out.2.2 _ (List.getElem_mem hi)
          have HS := Lib.hid (And.intro hLi hsi)
          have HOK := Lib.hid ((HL.out.2.1 _ (List.getElem_mem hi)).on hbw)
          have HOA := Lib.hid (fun (s : Sp) (hs : s ∈ L) => (HL.out.2.1 s hs).on hbw)
          have HW := Lib.hid hw5
          have HF := Lib.hid hfit
          have HBL := Lib.hid hbl
          have HC := Lib.hid hc0
          have HI := Lib.hid hie
          have HXK := Lib.hid hxk
          have hii : (i : Int) < L.length := by omega
          clear hw5 hfit hbl hc0 hLi hsi hie hbw
          by_cases hk0 : k = 0
          · subst hk0
            go_wp2_with fail
            refine wp_region_quiet_below (by kernel_rfl) (by kernel_rfl) ?_
            quiet_step (fail)
            quiet_step (fail)
            quiet_step (fail)
            go_big_quiet_skip
            go_big_quiet_skip
            go_big_quiet_skip
            go_big_quiet_skip
            go_big_quiet_skip
            go_big_quiet_skip
            go_big_quiet_skip
            go_big_quiet_skip
            go_big_quiet_skip
            go_big_quiet_skip
            go_big_quiet_skip
            go_big_quiet_skip
            go_big_quiet_skip
            go_big_quiet_skip
            quiet_step (fail)
            refine wpQuiet_nil ?_
            intro _ hw'
            obtain ⟨⟨dq, osq⟩, hw''⟩ := hw'
            subst hw''
            obtain ⟨wq, hwq⟩ : ∃ x, grow (redrawn wr dq) osq = x := ⟨_, rfl⟩
            have Bq : Below wr.heap.size wr wq := by rw [← hwq]; exact below_regrown wr dq osq
            rw [hwq]
            have p0 := (Bq.cell (p := ⟨b0, o0 + i * 6 + 0, none⟩) hb0).trans (HC.out i hi 0 _ rfl)
            have p1 := (Bq.cell (p := ⟨b0, o0 + i * 6 + 1, none⟩) hb0).trans (HC.out i hi 1 _ rfl)
            have p2 := (Bq.cell (p := ⟨b0, o0 + i * 6 + 2, none⟩) hb0).trans (HC.out i hi 2 _ rfl)
            have p3 := (Bq.cell (p := ⟨b0, o0 + i * 6 + 3, none⟩) hb0).trans (HC.out i hi 3 _ rfl)
            have p4 := (Bq.cell (p := ⟨b0, o0 + i * 6 + 4, none⟩) hb0).trans (HC.out i hi 4 _ rfl)
            have p5 := (Bq.cell (p := ⟨b0, o0 + i * 6 + 5, none⟩) hb0).trans (HC.out i hi 5 _ rfl)
            have pb := (Bq.cell (p := ⟨w.heap.size, 0, none⟩) hglt).trans hbx
            simp only [Nat.add_zero] at p0
            have BQ := Lib.hid Bq
            clear hwq Bq
            have cC := spot_reducedI L m i hm1 (by omega) L[i] HS.out.1 HS.out.2 wq (HOK.out.on BQ.out)
            go_wp2_with fail
            refine cC.mono ?_
            rintro e w7 ⟨x, rfl, hix, hox, b7⟩
            clear cC
            have hIX := Lib.hid hix
            have hOX := Lib.hid hox
            have hB7 := Lib.hid (BQ.out.trans (b7.mono BQ.out.size))
            clear hix hox b7 p0 p1 p2 p3 p4 p5
            have hn7 : xs.length ≤ 1073741824 := by omega
            go_wp2_with (at_builtin; refine wpList_append_sp _ rfl _ _ rfl w2.heap.size _ xs.length (flat xs) rfl ((HW.out.kept hB7.out).kept (below_new w7 _)) ⟨w7.heap.size, 0, none⟩ x.cells rfl rfl (one_spot w7 x) (cells_one x) (cells_noint x) hn7 (by have := HBL.out.size; have := hB7.out.size; simp; omega) ?_; intro v8 w8 hown8 hgrow8; replace hown8 := Lib.hid hown8; replace hgrow8 := Lib.hid hgrow8)
            go_roundg (gk - 1)
            case measure => have := HG.out; omega
            case rel =>
              have h5 := (HW.out.kept hB7.out).kept (below_new w7 (.cells x.cells.toArray 31))
              have hbl : Below w2.heap.size w2 (w7.alloc (.cells x.cells.toArray 31)) := (HBL.out.trans (hB7.out.mono HBL.out.size)).alloc (Nat.le_trans HBL.out.size hB7.out.size) _
              refine ⟨1, xs ++ [x], by have := HG.out; omega, by go_num, by rw [flat_snoc, List.length_append]; exact hown8.out, ?_, by have := HXK.out; rw [List.length_append, List.length_singleton]; omega, hbl.grown hgrow8.out hbl.size (fun b e => (h5.lt b e).1)⟩
              have hF := ((((HF.out.imp fun _ kk => kk.on hB7.out).imp fun _ kk => kk.on (below_new w7 (.cells x.cells.toArray 31))).imp fun _ kk => h5.ok hgrow8.out kk)).snoc hIX.out (h5.ok hgrow8.out (hOX.out.on (below_new w7 (.cells x.cells.toArray 31))))
              have ht := rows.cut_take0 (cf := cfL L) (s := s) hks
              rw [HI.out] at ht
              show Fits L (m + 1) w8 (cut (cfL L) none (s.take 1)) (xs ++ [x])
              rw [ht]
              have hx0 : xs = [] := List.eq_nil_of_length_eq_zero (by have := HXK.out; omega)
              subst hx0
              exact hF
          · obtain ⟨k', rfl⟩ : ∃ k', k = k' + 1 := ⟨k - 1, by omega⟩
            have hks' : k' < s.length := by omega
            have hi' := hs3.out s[k'] (List.getElem_mem hks')
            have hpk' := (HBL.out.cell (p := ⟨w.heap.size + 1, k', none⟩) hglt2).trans (hc2.out k' hks')
            obtain ⟨j, hje⟩ : ∃ j, s[k'] = j := ⟨_, rfl⟩
            rw [hje] at hpk' hi'
            have hjj : (j : Int) < L.length := by omega
            have hkk : (k' : Int) < L.length := by omega
            have hwk : IntKind.i64.wrap (k' : Int) = (k' : Int) := by rw [IntKind.wrap_i64]; omega
            have hkb : (((k' + 1 : Nat) : Int) == 0) = false := beq_eq_false_iff_ne.2 (by omega)
            have hkb2 : ((k' : Int) + 1 == 0) = false := beq_eq_false_iff_ne.2 (by omega)
            have hLj : L.getD j default = L[j] := by simp [List.getD, hi']
            have hcf : cfL L j i = cmpS L[j] L[i] := by unfold cfL; rw [hLj, HS.out.1]
            obtain ⟨b, hb⟩ : ∃ b, (cmpS L[j] L[i] == 0) = b := ⟨_, rfl⟩
            have cM := fun (V : World) (hV : Below wr.heap.size wr V) => spot_SameI m hm1 (by omega) L[j] L[i] (HL.out.2.2 _ (List.getElem_mem hi')) HS.out.2 b hb V ((HOA.out _ (List.getElem_mem hi')).on hV) (HOK.out.on hV)
            have CM := quiet_of cM
            have z0 := cell_regrown hbx
            have z1 := cell_regrown hpk'
            have x0 := cell_regrown (HC.out j hi' 0 _ rfl)
            have y0 := cell_regrown (HC.out i hi 0 _ rfl)
            have x1 := cell_regrown (HC.out j hi' 1 _ rfl)
            have y1 := cell_regrown (HC.out i hi 1 _ rfl)
            have x2 := cell_regrown (HC.out j hi' 2 _ rfl)
            have y2 := cell_regrown (HC.out i hi 2 _ rfl)
            have x3 := cell_regrown (HC.out j hi' 3 _ rfl)
            have y3 := cell_regrown (HC.out i hi 3 _ rfl)
            have x4 := cell_regrown (HC.out j hi' 4 _ rfl)
            have y4 := cell_regrown (HC.out i hi 4 _ rfl)
            have x5 := cell_regrown (HC.out j hi' 5 _ rfl)
            have y5 := cell_regrown (HC.out i hi 5 _ rfl)
            simp only [Nat.add_zero] at x0 y0
            have HJ := Lib.hid (And.intro hje (And.intro hcf hb))
            clear cM hje hcf hb hLj hpk'
            go_wp2_with fail
            refine wp_region_quiet_below (by kernel_rfl) (by kernel_rfl) ?_
            quiet_step (fail)
            quiet_step (fail)
            quiet_step (fail)
            quiet_step (fail)
            quiet_step (fail)
            quiet_step (fail)
            quiet_step (fail)
            quiet_step (fail)
            quiet_step (fail)
            quiet_step (fail)
            quiet_step (fail)
            quiet_step (fail)
            quiet_step (fail)
            quiet_step (fail)
            quiet_step (fail)
            quiet_step (with_reducible exact CM _ _)
            quiet_step (fail)
            quiet_step (fail)
            refine wpQuiet_nil ?_
            intro _ hw'
            obtain ⟨⟨dq, osq⟩, hw''⟩ := hw'
            subst hw''
            obtain ⟨wq, hwq⟩ : ∃ x, grow (redrawn wr dq) osq = x := ⟨_, rfl⟩
            have Bq : Below wr.heap.size wr wq := by rw [← hwq]; exact below_regrown wr dq osq
            rw [hwq]
            have p0 := (Bq.cell (p := ⟨b0, o0 + i * 6 + 0, none⟩) hb0).trans (HC.out i hi 0 _ rfl)
            have p1 := (Bq.cell (p := ⟨b0, o0 + i * 6 + 1, none⟩) hb0).trans (HC.out i hi 1 _ rfl)
            have p2 := (Bq.cell (p := ⟨b0, o0 + i * 6 + 2, none⟩) hb0).trans (HC.out i hi 2 _ rfl)
            have p3 := (Bq.cell (p := ⟨b0, o0 + i * 6 + 3, none⟩) hb0).trans (HC.out i hi 3 _ rfl)
            have p4 := (Bq.cell (p := ⟨b0, o0 + i * 6 + 4, none⟩) hb0).trans (HC.out i hi 4 _ rfl)
            have p5 := (Bq.cell (p := ⟨b0, o0 + i * 6 + 5, none⟩) hb0).trans (HC.out i hi 5 _ rfl)
            have pb := (Bq.cell (p := ⟨w.heap.size, 0, none⟩) hglt).trans hbx
            simp only [Nat.add_zero] at p0
            have BQ := Lib.hid Bq
            clear hwq Bq
            clear CM z0 z1 x0 y0 x1 y1 x2 y2 x3 y3 x4 y4 x5 y5
            cases b with
            | true =>
              clear p0 p1 p2 p3 p4 p5
              go_wp2_with fail
              go_roundg (gk - 1)
              case measure => have := HG.out; omega
              case rel =>
                refine ⟨k' + 2, xs, by have := HG.out; omega, by go_num, HW.out.kept BQ.out, ?_, by omega, HBL.out.trans (BQ.out.mono HBL.out.size)⟩
                have hc := rows.cut_take (cf := cfL L) (s := s) (k := k') hks
                rw [HJ.out.1, HI.out, HJ.out.2.1, if_pos (eq_of_beq HJ.out.2.2), List.append_nil] at hc
                rw [hc]
                exact HF.out.imp fun _ kk => kk.on BQ.out
            | false =>
              have cC := spot_reducedI L m i hm1 (by omega) L[i] HS.out.1 HS.out.2 wq (HOK.out.on BQ.out)
              go_wp2_with fail
              refine cC.mono ?_
              rintro e w7 ⟨x, rfl, hix, hox, b7⟩
              clear cC
              have hIX := Lib.hid hix
              have hOX := Lib.hid hox
              have hB7 := Lib.hid (BQ.out.trans (b7.mono BQ.out.size))
              clear hix hox b7 p0 p1 p2 p3 p4 p5
              have hn7 : xs.length ≤ 1073741824 := by omega
              go_wp2_with (at_builtin; refine wpList_append_sp _ rfl _ _ rfl w2.heap.size _ xs.length (flat xs) rfl ((HW.out.kept hB7.out).kept (below_new w7 _)) ⟨w7.heap.size, 0, none⟩ x.cells rfl rfl (one_spot w7 x) (cells_one x) (cells_noint x) hn7 (by have := HBL.out.size; have := hB7.out.size; simp; omega) ?_; intro v8 w8 hown8 hgrow8; replace hown8 := Lib.hid hown8; replace hgrow8 := Lib.hid hgrow8)
              go_roundg (gk - 1)
              case measure => have := HG.out; omega
              case rel =>
                have h5 := (HW.out.kept hB7.out).kept (below_new w7 (.cells x.cells.toArray 31))
                have hbl : Below w2.heap.size w2 (w7.alloc (.cells x.cells.toArray 31)) := (HBL.out.trans (hB7.out.mono HBL.out.size)).alloc (Nat.le_trans HBL.out.size hB7.out.size) _
                refine ⟨k' + 2, xs ++ [x], by have := HG.out; omega, by go_num, by rw [flat_snoc, List.length_append]; exact hown8.out, ?_, by have := HXK.out; rw [List.length_append, List.length_singleton]; omega, hbl.grown hgrow8.out hbl.size (fun b e => (h5.lt b e).1)⟩
                have hF := ((((HF.out.imp fun _ kk => kk.on hB7.out).imp fun _ kk => kk.on (below_new w7 (.cells x.cells.toArray 31))).imp fun _ kk => h5.ok hgrow8.out kk)).snoc hIX.out (h5.ok hgrow8.out (hOX.out.on (below_new w7 (.cells x.cells.toArray 31))))
                have hc := rows.cut_take (cf := cfL L) (s := s) (k := k') hks
                rw [HJ.out.1, HI.out, HJ.out.2.1, if_neg (fun h => by have := HJ.out.2.2; rw [h] at this; cases this)] at hc
                rw [hc]
                exact hF
        · have hke : k = L.length := by have := HG.out; omega
          subst hke
          obtain ⟨p, cap5, rfl, hc5⟩ := hw5.any
          have htk : s.take L.length = s := List.take_of_length_le (by rw [hs1.out]; exact Nat.le_refl _)
          rw [htk] at hfit
          have HF := Lib.hid (And.intro hw5.reads (And.intro hfit hbw))
          clear hw5 hfit hbw hbl htk
          go_wp2_with fail
          go_ret
          exact ⟨s, hs2.out, hs3.out, hs4.out, p, xs.length, xs, rfl, Nat.le_refl _, HF.out.1, HF.out.2.1, HF.out.2.2⟩

set_option maxRecDepth 100000 in
set_option maxHeartbeats 3200000 in
theorem spot_Row0 (A : Option Addr) (cap : Nat) (w : World) :
    Calls Tryz.prog 4 #[.slice A 0 cap] w fun e w' => ∃ p cp, e = .returned (.slice p 0 cp) ∧ Below w.heap.size w w' := by
  have hmk := make_places 0 (by omega)
  have hmk' : ∀ u : World, (Instr.makeSlice 34 (.int .i64 0) (.int .i64 0)).run Tryz.prog u = .ok (.slice (some ⟨u.heap.size, 0, none⟩) 0 0) (u.alloc (.cells #[] 3)) := fun u => by simpa [cells] using hmk u
  clear hmk
  go_enter Tryz.func4, Tryz.ntmps4
  go_wp2_with fail
  go_loopg [13] 0 (fun gh v13 wr => v13 = .int .i64 0 ∧ gh = 0 ∧ wr.cell? ⟨w.heap.size, 0, none⟩ = some (.slice A 0 cap) ∧ Below w.heap.size w wr)
  case atStart =>
    refine ⟨rfl, rfl, ?_, ((Below.refl _ w).alloc (Nat.le_refl _) _).alloc (by simp) _⟩
    rw [World.cell?_alloc_lt _ _ _ (by simp)]
    exact (Blk.new w 22 [.slice A 0 cap]).cell 0 rfl
  case round =>
    obtain ⟨rfl, rfl, hbox, hbel⟩ := hrel
    have HB := Lib.hid hbel
    clear hbel hmk'
    obtain ⟨u1, hmk2, hown, hgr, hsz3⟩ := make_spots 0 (by omega) wr wr.heap.size (Nat.le_refl _)
    have hmk3 : (Instr.makeSlice 22 (.int .i64 0) (.int .i64 0)).run Tryz.prog wr = .ok (.slice (some ⟨wr.heap.size, 0, none⟩) 0 0) u1 := hmk2
    have HG := Lib.hid hgr
    clear hown hgr hsz3 hmk2
    go_wp2_with fail
    refine Calls.mono (Tryz.slices_SortFunc_none (α := Nat) _ _ _ _) ?_
    rintro e w2 ⟨rfl, h2⟩
    subst h2
    go_wp2_with fail
    go_loopg [5, 29] 0 (fun gh v5 v29 wq => v5 = .slice (some ⟨w2.heap.size, 0, none⟩) 0 0 ∧ v29 = .int .i64 0 ∧ gh = 0 ∧ Below w.heap.size w wq)
    case atStart => exact ⟨rfl, rfl, rfl, HB.out.grown HG.out HB.out.size (fun b e => by cases e)⟩
    case round =>
      obtain ⟨rfl, rfl, rfl, hq⟩ := hrel
      have HQ := Lib.hid hq
      clear hq
      go_wp2_with fail
      go_ret
      exact ⟨_, _, rfl, HQ.out⟩
theorem spot_RowAny (L : List Sp) (A : Option Addr) (cap m : Nat) (w : World) (hm1 : 1 ≤ m) (hm : m + 1 ≤ 2097150) (hlen : L.length ≤ 1048576) (hl : RdS w A L) (hok : ∀ s ∈ L, s.Ok w) (hsh : ∀ s ∈ L, s.Sh m) :
    Calls Tryz.prog 4 #[.slice A L.length cap] w fun e w' => ∃ O : List Nat, rows.Alike (cfL L) O (rowR (cfL L) L.length) ∧ RowRd L (m + 1) O w e w' := by
  rcases Nat.eq_zero_or_pos L.length with h0 | h0
  · obtain rfl : L = [] := List.eq_nil_of_length_eq_zero h0
    refine (spot_Row0 A cap w).mono ?_
    rintro e w' ⟨p, cp, rfl, hb⟩
    exact ⟨[], trivial, p, cp, [], rfl, Nat.zero_le _, fun hn => by simp at hn, Fits.nil _ _ _, hb⟩
  · refine (spot_Row L A cap m w hm1 hm hlen h0 hl hok hsh).mono ?_
    rintro e w' ⟨s, h1, h2, h3, h4⟩
    exact ⟨_, rows_alike (ord_cfL L) h1 h2 h3, h4⟩
end Go.Proofs.YtokaapljlpngdaaGreatDoor
