/- Lines as areas, the program's own: draw. -/
import Derived.Test.YtngnclibeccplaaDoorZSuY
import Derived.Test.YtngnclibeccplaaDoorZSuG
import Derived.Test.YtngnclibeccplaaDoorZSuF
namespace Go.Proofs.YtngnclibeccplaaDoor
open Go.RowKit Num

set_option maxRecDepth 10000 in
set_option maxHeartbeats 12800000 in
theorem stroke_draw (l : List Pt) (q : Option Addr) (k : Nat) (cl : Bool) (P : Pn) (B : Option Addr) (d G : Nat) (w : World) (hS : Sxt w) (hSG : 0 < G) (hf : FitL l) (hl : l.length ≤ 1048576)
    (hL : w.ownsRow 0 34 2 (.slice q l.length k) l.length (ptRow l)) (hP : RdV w G B (icells P.dash)) (hpl : P.dash.length ≤ 1048576) (hd : P.dash.length ≤ d) (hok : PenOk P) (hG : GatX w G []) (hn : 2 ≤ l.length) :
    Calls Tryd.prog 10 #[.agg #[.slice q l.length k, .bool cl], penV P B d, .func (.func 12) #[.pointer (some ⟨G, 0, none⟩)] #[]] w fun e w' => e = .returned (.tuple #[]) ∧ GatX w' G (partsM l cl P) ∧ Below G w w' := by
  obtain ⟨n, hnn⟩ : ∃ n, l.length = n := ⟨_, rfl⟩
  obtain ⟨np, hnp⟩ : ∃ np, P.dash.length = np := ⟨_, rfl⟩
  obtain ⟨W, X, hW, hX, hWb, k1, k2, k3, bX, sW, bW⟩ := draw_boxes w (.slice q l.length k) (.bool cl) (.int .i64 P.w) (.int .i64 P.cap) (.int .i64 P.join) (.int .i64 P.lim) (.slice B P.dash.length d) (.int .i64 P.phase) (l.length : Int)
  have hGl := hG.lt
  have hGX := hG.below bX
  have HST := Lib.hid (fun V (hb : Below G X V) (hk : KeepT X V) => show Box V w.heap.size 24 [.slice q l.length k, .bool cl] ∧ Box V (w.heap.size + 1) 27 [.int .i64 P.w, .int .i64 P.cap, .int .i64 P.join, .int .i64 P.lim, .slice B P.dash.length d, .int .i64 P.phase] ∧ Box V (w.heap.size + 2) 3 [.int .i64 (l.length : Int)] ∧ RdV V V.heap.size q (ptRow l) ∧ RdV V V.heap.size B (icells P.dash) ∧ Sxt V from by
    have s1 := bX.size
    have s2 := hk.1
    refine ⟨hk.box k1 (by decide) (by decide), hk.box k2 (by decide) (by decide), hk.box k3 (by decide) (by decide), own_rd (hk.own (own_below hL bX)), ?_, (hS.on bX).belowG hSG hb⟩
    exact ((hP.below (bX.mono (Nat.le_of_lt hGl))).below hb).mono (by omega))
  have hh := halfM_in hok
  have cA := fun (z : Int) (j : Nat) (h1 : z + l.length = j) (h2 : -1 ≤ z) (h3 : z ≤ 4294967296) V (hb : Below G X V) (hk : KeepT X V) => draw_at l q k cl w.heap.size (w.heap.size + 2) z j h1 h2 h3 V (HST.out V hb hk).2.2.2.1 (by omega) (by omega) (HST.out V hb hk).1 (HST.out V hb hk).2.2.1
  have cH := fun V => stroke_half P B d V (by have := hok.1; unfold In64; omega)
  rw [show P.w.tdiv 2 = halfM P from Int.tdiv_eq_ediv_of_nonneg (by have := hok.1; omega)] at cH
  have cB := fun (i j : Nat) V => stroke_Bar (roundP l i) (roundP l j) (halfM P) (round_fit hf i) (round_fit hf j) (by omega) V
  have cC := fun (i j m : Nat) V (hb : Below G X V) (hk : KeepT X V) => stroke_Corner (roundP l i) (roundP l j) (roundP l m) P B d V (HST.out V hb hk).2.2.2.2.2 (round_fit hf i) (round_fit hf j) (round_fit hf m) (HST.out V hb hk).2.2.2.2.1 hpl hd hok
  have cT := fun (i j : Nat) V (hb : Below G X V) (hk : KeepT X V) => stroke_Tip (roundP l i) (roundP l j) P B d V (HST.out V hb hk).2.2.2.2.2 (round_fit hf i) (round_fit hf j) (HST.out V hb hk).2.2.2.2.1 hpl hd hok
  have hbars := fun (i : Nat) (h : i + 1 < (ringP l cl).length) => bars_next (l := l) (c := cl) (h := halfM P) (by omega) h
  have hcorn := fun (i : Nat) (h : i < l.length) (hc : cl = true ∨ (0 < i ∧ i + 1 < l.length)) => corners_next (P := P) h hc
  have hring := ring_len l cl (by omega)
  have HADD := Lib.hid (fun xs D (q9 : Option Addr) (k9 : Nat) V (h : GatX V G xs) (h1 : xs.length ≤ 1073741824) (h2 : RdV V V.heap.size q9 (ptRow D)) (h3 : D.length ≤ 10000) (h4 : D.length ≤ k9) => areas_addX G xs D q9 k9 V h h1 h2 h3 h4)
  have hbl := fun (i : Nat) => barsTo_length (ringP l cl) (halfM P) i
  have hcl := fun (i : Nat) => cornersTo_le l cl P i
  have hparts : partsM l cl P = barsTo (ringP l cl) (halfM P) ((ringP l cl).length - 1) ++ cornersTo l cl P l.length ++ tipsM l cl P := rfl
  have htips : cl = false → tipsM l cl P = [tipM (roundP l (1 + n)) (roundP l (0 + n)) P, tipM (roundP l (n - 2 + n)) (roundP l (n - 1 + n)) P] := fun h => by
    subst h
    rw [← hnn, round_add, round_add, round_add, round_add, round_lt (by omega), round_lt (by omega), round_lt (by omega), round_lt (by omega)]
    rfl
  have htipc : cl = true → tipsM l cl P = [] := fun h => by subst h; rfl
  have hclast : cl = false → cornersTo l cl P l.length = cornersTo l cl P (l.length - 1) := fun h => by subst h; exact corners_last (by omega)
  have hcone : cl = false → cornersTo l cl P 1 = [] := fun h => by subst h; exact corners_one
  have hra := fun (i : Nat) => round_add l i
  unfold penV at *
  obtain ⟨⟨w0, w1⟩, -⟩ := Box.pair hWb.1
  have x0 := k3.cell 0 rfl
  rw [hnn] at hW hX w0 x0 hring hclast hparts
  rw [hnp] at hW
  simp only [hnn] at cA hcorn hra
  rw [hnn, hnp]
  simp only [hnp] at cH cC cT
  have HSV := Lib.hid (fun V (hb : Below G X V) (hk : KeepT X V) => show (fun w' => (((w'.cell? ⟨w.heap.size + 1, 0, none⟩ = some (.int .i64 P.w) ∧ w'.cell? ⟨w.heap.size + 1, 1, none⟩ = some (.int .i64 P.cap) ∧ w'.cell? ⟨w.heap.size + 1, 2, none⟩ = some (.int .i64 P.join) ∧ w'.cell? ⟨w.heap.size + 1, 3, none⟩ = some (.int .i64 P.lim) ∧ w'.cell? ⟨w.heap.size + 1, 4, none⟩ = some (.slice B np d) ∧ w'.cell? ⟨w.heap.size + 1, 5, none⟩ = some (.int .i64 P.phase)) ∧ w'.cell? ⟨w.heap.size + 2, 0, none⟩ = some (.int .i64 (n : Int))) ∧ Below G X w' ∧ KeepT X w')) V from by
    obtain ⟨-, h1, h2, -⟩ := HST.out V hb hk
    rw [hnp] at h1
    rw [hnn] at h2
    exact ⟨⟨Box.six h1, h2.cell 0 rfl⟩, hb, hk⟩)
  have HLN := Lib.hid (fun V (hb : Below G X V) (hk : KeepT X V) => show V.cell? ⟨w.heap.size, 0, none⟩ = some (.slice q n k) ∧ V.cell? ⟨w.heap.size, 1, none⟩ = some (.bool cl) from by
    have h1 := (HST.out V hb hk).1
    rw [hnn] at h1
    exact (Box.pair h1).1)
  obtain ⟨h, hhe⟩ : ∃ h, halfM P = h := ⟨_, rfl⟩
  rw [hhe] at hh hparts
  simp only [hhe] at cH cB hbars hbl
  have CA := Lib.hid cA
  have CH := Lib.hid cH
  have CB := Lib.hid cB
  have CC := Lib.hid cC
  have CT := Lib.hid cT
  have HBN := Lib.hid hbars
  have HCN := Lib.hid hcorn
  have HBL := Lib.hid hbl
  have HCL := Lib.hid hcl
  have HRA := Lib.hid hra
  obtain ⟨fr, hfr⟩ : ∃ fr : Nat, (if cl = true then 0 else 1) = fr := ⟨_, rfl⟩
  obtain ⟨tw, hto⟩ : ∃ tw : Nat, (if cl = true then n else n - 1) = tw := ⟨_, rfl⟩
  have htr : (ringP l cl).length = tw + 1 := by
    rw [hring, ← hto]
    cases cl <;> simp <;> omega
  obtain ⟨PT, hPT⟩ : ∃ PT, partsM l cl P = PT := ⟨_, rfl⟩
  rw [hPT] at hparts ⊢
  have HPR := Lib.hid (show PT = barsTo (ringP l cl) h tw ++ cornersTo l cl P n ++ tipsM l cl P from by rw [hparts, htr, Nat.add_sub_cancel])
  have HCT := Lib.hid (show cornersTo l cl P n = cornersTo l cl P tw ∧ cornersTo l cl P fr = [] ∧ fr ≤ tw ∧ tw ≤ n ∧ 1 ≤ tw from by
    rw [← hto, ← hfr]
    cases cl with
    | true => exact ⟨rfl, rfl, by simp, by simp, by simp; omega⟩
    | false => exact ⟨hclast rfl, hcone rfl, by simp; omega, by simp, by simp; omega⟩)
  have HTI := Lib.hid (And.intro htips htipc)
  have HFT := Lib.hid (show (cl = true ∧ fr = 0 ∧ tw = n) ∨ (cl = false ∧ fr = 1 ∧ tw = n - 1) from by
    rw [← hto, ← hfr]
    cases cl <;> simp)
  have HTR := Lib.hid htr
  have h2 : ¬ (n : Int) < 2 := by omega
  have h3 : IntKind.i64.wrap ((n : Int) - 1) = (n : Int) - 1 := IntWalk.i64_in _ (by omega)
  have HX0 := Lib.hid (And.intro hGX (And.intro bX hGl))
  have hn4 : 2 ≤ n ∧ n ≤ 1048576 := by omega
  have HN := Lib.hid hn4
  have ADD := HADD
  clear cA cH cB cC cT hbars hcorn hbl hcl hra hfr hto htr hPT hparts htips htipc hclast hcone hring HADD hhe hnn hnp hL hP hpl hd hok hG hn hl hf hS hSG hGl hGX bX bW k1 k2 k3 hWb hh HST hn4
  go_enter Tryd.func10, Tryd.ntmps10
  go_wp2_with first
    | (rw [hW])
    | (rw [hX])
  go_quiet (fail)
  go_step
  go_step
  go_step
  have H0 := Lib.hid (show Below G X (X.drewN nq) ∧ KeepT X (X.drewN nq) ∧ GatX (X.drewN nq) G [] from
    ⟨below_figE (Below.refl _ _) nq, KeepT.of (below_figE (Below.refl _ _) nq), HX0.out.1.below (below_figE (Below.refl _ _) nq)⟩)
  obtain ⟨Y, hY⟩ : ∃ Y, X.drewN nq = Y := ⟨_, rfl⟩
  rw [hY] at H0 ⊢
  clear hY w0 w1 x0 hW hX
  obtain ⟨l0, l1⟩ := HLN.out Y H0.out.1 H0.out.2.1
  have x0 := (HSV.out Y H0.out.1 H0.out.2.1).1.2
  go_cut [8, 9] from 12 to 83 (fun v8 v9 wc => ∃ z : Int, v8 = .int .i64 (fr : Int) ∧ v9 = .int .i64 z ∧ z = (tw : Int) ∧ Below G X wc ∧ KeepT X wc ∧ GatX wc G [])
  case first =>
    rcases HFT.out with ⟨rfl, rfl, rfl⟩ | ⟨rfl, rfl, rfl⟩
    · go_wp2_with fail
      go_quiet (fail)
      have H1 := Lib.hid (show Below G X (Y.drewN nq) ∧ KeepT X (Y.drewN nq) ∧ GatX (Y.drewN nq) G [] from
        ⟨below_figE H0.out.1 nq, H0.out.2.1.trans (KeepT.of (below_figE (Below.refl _ _) nq)), H0.out.2.2.below (below_figE (Below.refl _ _) nq)⟩)
      go_wp2_with fail
      go_meet
      exact ⟨_, rfl, rfl, rfl, H1.out⟩
    · go_wp2_with fail
      go_meet
      exact ⟨_, rfl, rfl, by have := HN.out; omega, H0.out⟩
  case rest =>
    obtain ⟨z, rfl, rfl, rfl, hBc, hKc, hGc⟩ := hcut
    have HC0 := Lib.hid (And.intro hBc (And.intro hKc hGc))
    clear hBc hKc hGc l0 l1 x0 H0 h2 h3 sW
    go_wp2_with fail
    go_loopg [10, 24] tw (fun gh _ it wr => ∃ i : Nat, it = .int .i64 (i : Int) ∧ gh + i = tw ∧ Below G X wr ∧ KeepT X wr ∧ GatX wr G (barsTo (ringP l cl) h i))
    case atStart => exact ⟨0, rfl, by omega, HC0.out⟩
    case round =>
      obtain ⟨i, rfl, hg, hW1⟩ := hrel
      have hn4 := HN.out
      have htw := HCT.out.2.2.2
      have HG := Lib.hid hg
      by_cases hlt : i < tw
      · have hil : (i : Int) < (tw : Int) := by omega
        have vi : IntKind.i64.wrap ((i : Int) + 1) = (i : Int) + 1 := IntWalk.i64_in _ (by omega)
        have hbn := HBN.out i (by rw [HTR.out]; omega)
        have hxl := HBL.out i
        have CAT1 := Lib.hid (fun V hb hk => show Calls Tryd.prog 18 #[.int .i64 ((i : Int)), .pointer (some ⟨w.heap.size, 0, none⟩), .pointer (some ⟨w.heap.size + 2, 0, none⟩)] V fun e w' => e = .returned (ptV (roundP l (i))) ∧ Below V.heap.size V w' from by
          have h9 := CA.out ((i : Int)) (i + n) (by omega) (by omega) (by omega) V hb hk
          rw [HRA.out (i)] at h9
          exact h9)
        have CAT2 := Lib.hid (fun V hb hk => show Calls Tryd.prog 18 #[.int .i64 ((i : Int) + 1), .pointer (some ⟨w.heap.size, 0, none⟩), .pointer (some ⟨w.heap.size + 2, 0, none⟩)] V fun e w' => e = .returned (ptV (roundP l (i + 1))) ∧ Below V.heap.size V w' from by
          have h9 := CA.out ((i : Int) + 1) (i + 1 + n) (by omega) (by omega) (by omega) V hb hk
          rw [HRA.out (i + 1)] at h9
          exact h9)
        have cBI := CB.out i (i + 1)
        have hDl := barM_le (roundP l i) (roundP l (i + 1)) h
        obtain ⟨xs, hxs⟩ : ∃ xs, barsTo (ringP l cl) h i = xs := ⟨_, rfl⟩
        rw [hxs] at hbn hxl hW1
        generalize roundP l i = p1 at CAT1 cBI hDl hbn
        generalize roundP l (i + 1) = p2 at CAT2 cBI hDl hbn
        unfold PtsTo at cBI
        generalize barM p1 p2 h = D at cBI hDl hbn
        have aDD := fun (q9 : Option Addr) (k9 : Nat) V (h1 : GatX V G xs) (h2 : RdV V V.heap.size q9 (ptRow D)) (h4 : D.length ≤ k9) => ADD.out xs D q9 k9 V h1 (by omega) h2 (by omega) h4
        obtain ⟨dn, hdn⟩ : ∃ dn, D.length = dn := ⟨_, rfl⟩
        simp only [hdn] at cBI aDD
        obtain ⟨x1, y1⟩ := p1
        obtain ⟨x2, y2⟩ := p2
        unfold ptV at CAT1 CAT2 cBI
        dsimp only at CAT1 CAT2 cBI
        have CBI := Lib.hid cBI
        have ADDI := Lib.hid aDD
        have HBX := Lib.hid hbn
        have H19 := Lib.hid (show Below G X wr.drew ∧ KeepT X wr.drew ∧ GatX wr.drew G xs from ⟨hW1.1.drew, hW1.2.1.trans (KeepT.of (Below.refl _ wr).drew), hW1.2.2.below (Below.refl _ wr).drew⟩)
        clear cBI aDD hbn hxl hxs hDl hdn hW1 hg hn4 htw
        go_wp2_with fail
        go_region_held3 (fun w' => (((w'.cell? ⟨w.heap.size + 1, 0, none⟩ = some (.int .i64 P.w) ∧ w'.cell? ⟨w.heap.size + 1, 1, none⟩ = some (.int .i64 P.cap) ∧ w'.cell? ⟨w.heap.size + 1, 2, none⟩ = some (.int .i64 P.join) ∧ w'.cell? ⟨w.heap.size + 1, 3, none⟩ = some (.int .i64 P.lim) ∧ w'.cell? ⟨w.heap.size + 1, 4, none⟩ = some (.slice B np d) ∧ w'.cell? ⟨w.heap.size + 1, 5, none⟩ = some (.int .i64 P.phase)) ∧ w'.cell? ⟨w.heap.size + 2, 0, none⟩ = some (.int .i64 (n : Int))) ∧ Below G X w' ∧ KeepT X w'))
          (first
            | (with_reducible exact HSV.out _ H24.out.1 H24.out.2.1)
            | (with_reducible exact HSV.out _ H23.out.1 H23.out.2.1)
            | (with_reducible exact HSV.out _ H22.out.1 H22.out.2.1)
            | (with_reducible exact HSV.out _ H21.out.1 H21.out.2.1)
            | (with_reducible exact HSV.out _ H20.out.1 H20.out.2.1)
            | (with_reducible exact HSV.out _ H19.out.1 H19.out.2.1))
          ((first
            | (go_at_call 18; (with_reducible refine Calls.mono (CAT1.out _ H19.out.1 H19.out.2.1) ?_); rintro e w20 ⟨rfl, bb⟩; (have H20 := Lib.hid (g_call H19.out bb)); clear bb)
            | (go_at_call 18; (with_reducible refine Calls.mono (CAT2.out _ H20.out.1 H20.out.2.1) ?_); rintro e w21 ⟨rfl, bb⟩; (have H21 := Lib.hid (g_call H20.out bb)); clear bb)
            | (go_at_call 20; (with_reducible refine Calls.mono (CH.out _) ?_); rintro e w22 ⟨rfl, bb⟩; (have H22 := Lib.hid (g_call H21.out bb)); clear bb)
            | (go_at_call 19; (with_reducible refine Calls.mono (CBI.out _) ?_); rintro e w23 ⟨⟨q9, k9, rfl, hk9, hq9⟩, bb⟩; (have H23 := Lib.hid (g_call H22.out bb)); (have R9 := Lib.hid (And.intro hk9 hq9)); clear bb hk9 hq9)
            | (go_at_call 12; (with_reducible refine Calls.mono (ADDI.out q9 k9 _ H23.out.2.2 R9.out.2 R9.out.1) ?_); rintro e w24 ⟨rfl, hg9, hb9, hk9⟩; (have H24 := Lib.hid (And.intro (H23.out.1.trans hb9) (And.intro (H23.out.2.1.trans hk9) hg9))); clear hg9 hb9 hk9)))
        rename_i hHeld
        clear hHeld
        go_wp2_with fail
        go_roundg (tw - (i + 1))
        case measure => have := HG.out; omega
        case rel => exact ⟨i + 1, by simp, by have := HG.out; omega, by rw [HBX.out]; exact H24.out⟩
      · obtain rfl : tw = i := by omega
        have H30 := Lib.hid hW1
        clear hW1 hg hn4 htw
        go_wp2_with fail
        go_loopg [11] tw (fun gh it wr => ∃ i : Nat, it = .int .i64 (i : Int) ∧ gh + i = tw + fr ∧ (fr ≤ i ∧ i ≤ tw) ∧ Below G X wr ∧ KeepT X wr ∧ GatX wr G (barsTo (ringP l cl) h tw ++ cornersTo l cl P i))
        case atStart => exact ⟨fr, rfl, rfl, ⟨Nat.le_refl _, HCT.out.2.2.1⟩, by rw [HCT.out.2.1, List.append_nil]; exact H30.out⟩
        case round =>
          obtain ⟨i, rfl, hg, hfi, hW1⟩ := hrel
          have hn4 := HN.out
          have htw := HCT.out.2.2
          have HG := Lib.hid (And.intro hg hfi)
          by_cases hlt : i < tw
          · have hil : (i : Int) < (tw : Int) := by omega
            have vi : IntKind.i64.wrap ((i : Int) + 1) = (i : Int) + 1 := IntWalk.i64_in _ (by omega)
            have vj : IntKind.i64.wrap ((i : Int) - 1) = (i : Int) - 1 := IntWalk.i64_in _ (by omega)
            have hbn := HCN.out i (by omega) (by rcases HFT.out with ⟨h1, h2, h3⟩ | ⟨h1, h2, h3⟩; exact .inl h1; exact .inr (by omega))
            have hxl : (barsTo (ringP l cl) h tw ++ cornersTo l cl P i).length ≤ 2097152 := by
              have h1 := HBL.out tw
              have h2 := HCL.out i
              rw [List.length_append]
              omega
            have CAT0 := Lib.hid (fun V hb hk => show Calls Tryd.prog 18 #[.int .i64 ((i : Int) - 1), .pointer (some ⟨w.heap.size, 0, none⟩), .pointer (some ⟨w.heap.size + 2, 0, none⟩)] V fun e w' => e = .returned (ptV (roundP l (i + n - 1))) ∧ Below V.heap.size V w' from by
              have h9 := CA.out ((i : Int) - 1) (i + n - 1) (by omega) (by omega) (by omega) V hb hk
              exact h9)
            have CAT1 := Lib.hid (fun V hb hk => show Calls Tryd.prog 18 #[.int .i64 ((i : Int)), .pointer (some ⟨w.heap.size, 0, none⟩), .pointer (some ⟨w.heap.size + 2, 0, none⟩)] V fun e w' => e = .returned (ptV (roundP l (i))) ∧ Below V.heap.size V w' from by
              have h9 := CA.out ((i : Int)) (i + n) (by omega) (by omega) (by omega) V hb hk
              rw [HRA.out (i)] at h9
              exact h9)
            have CAT2 := Lib.hid (fun V hb hk => show Calls Tryd.prog 18 #[.int .i64 ((i : Int) + 1), .pointer (some ⟨w.heap.size, 0, none⟩), .pointer (some ⟨w.heap.size + 2, 0, none⟩)] V fun e w' => e = .returned (ptV (roundP l (i + 1))) ∧ Below V.heap.size V w' from by
              have h9 := CA.out ((i : Int) + 1) (i + 1 + n) (by omega) (by omega) (by omega) V hb hk
              rw [HRA.out (i + 1)] at h9
              exact h9)
            have cBI := CC.out (i + n - 1) i (i + 1)
            have hDl := cornerM_le (roundP l (i + n - 1)) (roundP l i) (roundP l (i + 1)) P
            obtain ⟨xs, hxs⟩ : ∃ xs, barsTo (ringP l cl) h tw ++ cornersTo l cl P i = xs := ⟨_, rfl⟩
            have hbn2 : barsTo (ringP l cl) h tw ++ cornersTo l cl P (i + 1) = xs ++ [cornerM (roundP l (i + n - 1)) (roundP l i) (roundP l (i + 1)) P] := by rw [hbn, ← hxs, List.append_assoc]
            rw [hxs] at hxl hW1
            generalize roundP l (i + n - 1) = p0 at CAT0 cBI hDl hbn2
            generalize roundP l i = p1 at CAT1 cBI hDl hbn2
            generalize roundP l (i + 1) = p2 at CAT2 cBI hDl hbn2
            unfold PtsTo at cBI
            generalize cornerM p0 p1 p2 P = D at cBI hDl hbn2
            have aDD := fun (q9 : Option Addr) (k9 : Nat) V (h1 : GatX V G xs) (h2 : RdV V V.heap.size q9 (ptRow D)) (h4 : D.length ≤ k9) => ADD.out xs D q9 k9 V h1 (by omega) h2 (by omega) h4
            obtain ⟨dn, hdn⟩ : ∃ dn, D.length = dn := ⟨_, rfl⟩
            simp only [hdn] at cBI aDD
            obtain ⟨x0, y0⟩ := p0
            obtain ⟨x1, y1⟩ := p1
            obtain ⟨x2, y2⟩ := p2
            unfold ptV at CAT0 CAT1 CAT2 cBI
            dsimp only at CAT0 CAT1 CAT2 cBI
            have CBI := Lib.hid cBI
            have ADDI := Lib.hid aDD
            have HBX := Lib.hid hbn2
            have H19 := Lib.hid (show Below G X wr.drew ∧ KeepT X wr.drew ∧ GatX wr.drew G xs from ⟨hW1.1.drew, hW1.2.1.trans (KeepT.of (Below.refl _ wr).drew), hW1.2.2.below (Below.refl _ wr).drew⟩)
            clear cBI aDD hbn hbn2 hxl hxs hDl hdn hW1 hg hfi hn4 htw
            go_wp2_with fail
            go_region_held3 (fun w' => (((w'.cell? ⟨w.heap.size + 1, 0, none⟩ = some (.int .i64 P.w) ∧ w'.cell? ⟨w.heap.size + 1, 1, none⟩ = some (.int .i64 P.cap) ∧ w'.cell? ⟨w.heap.size + 1, 2, none⟩ = some (.int .i64 P.join) ∧ w'.cell? ⟨w.heap.size + 1, 3, none⟩ = some (.int .i64 P.lim) ∧ w'.cell? ⟨w.heap.size + 1, 4, none⟩ = some (.slice B np d) ∧ w'.cell? ⟨w.heap.size + 1, 5, none⟩ = some (.int .i64 P.phase)) ∧ w'.cell? ⟨w.heap.size + 2, 0, none⟩ = some (.int .i64 (n : Int))) ∧ Below G X w' ∧ KeepT X w'))
              (first
                | (with_reducible exact HSV.out _ H24.out.1 H24.out.2.1)
                | (with_reducible exact HSV.out _ H23.out.1 H23.out.2.1)
                | (with_reducible exact HSV.out _ H22.out.1 H22.out.2.1)
                | (with_reducible exact HSV.out _ H21.out.1 H21.out.2.1)
                | (with_reducible exact HSV.out _ H20.out.1 H20.out.2.1)
                | (with_reducible exact HSV.out _ H19.out.1 H19.out.2.1))
              ((first
                | (go_at_call 18; (with_reducible refine Calls.mono (CAT0.out _ H19.out.1 H19.out.2.1) ?_); rintro e w20 ⟨rfl, bb⟩; (have H20 := Lib.hid (g_call H19.out bb)); clear bb)
                | (go_at_call 18; (with_reducible refine Calls.mono (CAT1.out _ H20.out.1 H20.out.2.1) ?_); rintro e w21 ⟨rfl, bb⟩; (have H21 := Lib.hid (g_call H20.out bb)); clear bb)
                | (go_at_call 18; (with_reducible refine Calls.mono (CAT2.out _ H21.out.1 H21.out.2.1) ?_); rintro e w22 ⟨rfl, bb⟩; (have H22 := Lib.hid (g_call H21.out bb)); clear bb)
                | (go_at_call 21; (with_reducible refine Calls.mono (CBI.out _ H22.out.1 H22.out.2.1) ?_); rintro e w23 ⟨⟨q9, k9, rfl, hk9, hq9⟩, bb⟩; (have H23 := Lib.hid (g_call H22.out bb)); (have R9 := Lib.hid (And.intro hk9 hq9)); clear bb hk9 hq9)
                | (go_at_call 12; (with_reducible refine Calls.mono (ADDI.out q9 k9 _ H23.out.2.2 R9.out.2 R9.out.1) ?_); rintro e w24 ⟨rfl, hg9, hb9, hk9⟩; (have H24 := Lib.hid (And.intro (H23.out.1.trans hb9) (And.intro (H23.out.2.1.trans hk9) hg9))); clear hg9 hb9 hk9)))
            rename_i hHeld
            clear hHeld
            go_wp2_with fail
            go_roundg (tw + fr - (i + 1))
            case measure => have := HG.out; omega
            case rel => exact ⟨i + 1, by simp, by have := HG.out; omega, by have := HG.out; omega, by rw [HBX.out]; exact H24.out⟩
          · obtain rfl : tw = i := by omega
            have H40 := Lib.hid hW1
            obtain ⟨l0, l1⟩ := HLN.out wr H40.out.1 H40.out.2.1
            have HXL := Lib.hid (show (barsTo (ringP l cl) h tw ++ cornersTo l cl P tw).length ≤ 2097152 from by
              have h1 := HBL.out tw
              have h2 := HCL.out tw
              rw [List.length_append]
              omega)
            clear hW1 hg hfi hn4 htw
            cases cl with
            | true =>
              go_wp2_with fail
              go_end0
              refine ⟨rfl, ?_, (HX0.out.2.1.mono (Nat.le_of_lt HX0.out.2.2)).trans H40.out.1⟩
              rw [HPR.out, HCT.out.1, HTI.out.2 (by first | rfl | trivial), List.append_nil]
              exact H40.out.2.2
            | false =>
              go_wp2_with fail
              have hn4 := HN.out
              have v1 : IntKind.i64.wrap ((n : Int) - 2) = (n : Int) - 2 := IntWalk.i64_in _ (by omega)
              have v2 : IntKind.i64.wrap ((n : Int) - 1) = (n : Int) - 1 := IntWalk.i64_in _ (by omega)
              have hpr : PT = ((barsTo (ringP l false) h tw ++ cornersTo l false P tw) ++ [tipM (roundP l (1 + n)) (roundP l (0 + n)) P]) ++ [tipM (roundP l (n - 2 + n)) (roundP l (n - 1 + n)) P] := by
                rw [HPR.out, HCT.out.1, HTI.out.1 (by first | rfl | trivial)]
                simp
              have hxl := HXL.out
              have hW1 := H40.out
              obtain ⟨xs, hxs⟩ : ∃ xs, barsTo (ringP l false) h tw ++ cornersTo l false P tw = xs := ⟨_, rfl⟩
              rw [hxs] at hpr hxl hW1
              have CAT1 := Lib.hid (fun V hb hk => show Calls Tryd.prog 18 #[.int .i64 ((1 : Int)), .pointer (some ⟨w.heap.size, 0, none⟩), .pointer (some ⟨w.heap.size + 2, 0, none⟩)] V fun e w' => e = .returned (ptV (roundP l (1 + n))) ∧ Below V.heap.size V w' from by
                have h9 := CA.out ((1 : Int)) (1 + n) (by omega) (by omega) (by omega) V hb hk
                exact h9)
              have CAT2 := Lib.hid (fun V hb hk => show Calls Tryd.prog 18 #[.int .i64 ((0 : Int)), .pointer (some ⟨w.heap.size, 0, none⟩), .pointer (some ⟨w.heap.size + 2, 0, none⟩)] V fun e w' => e = .returned (ptV (roundP l (0 + n))) ∧ Below V.heap.size V w' from by
                have h9 := CA.out ((0 : Int)) (0 + n) (by omega) (by omega) (by omega) V hb hk
                exact h9)
              have CAT3 := Lib.hid (fun V hb hk => show Calls Tryd.prog 18 #[.int .i64 ((n : Int) - 2), .pointer (some ⟨w.heap.size, 0, none⟩), .pointer (some ⟨w.heap.size + 2, 0, none⟩)] V fun e w' => e = .returned (ptV (roundP l (n - 2 + n))) ∧ Below V.heap.size V w' from by
                have h9 := CA.out ((n : Int) - 2) (n - 2 + n) (by omega) (by omega) (by omega) V hb hk
                exact h9)
              have CAT4 := Lib.hid (fun V hb hk => show Calls Tryd.prog 18 #[.int .i64 ((n : Int) - 1), .pointer (some ⟨w.heap.size, 0, none⟩), .pointer (some ⟨w.heap.size + 2, 0, none⟩)] V fun e w' => e = .returned (ptV (roundP l (n - 1 + n))) ∧ Below V.heap.size V w' from by
                have h9 := CA.out ((n : Int) - 1) (n - 1 + n) (by omega) (by omega) (by omega) V hb hk
                exact h9)
              have cBI := CT.out (1 + n) (0 + n)
              have cBJ := CT.out (n - 2 + n) (n - 1 + n)
              have hDl := tipM_le (roundP l (1 + n)) (roundP l (0 + n)) P
              have hEl := tipM_le (roundP l (n - 2 + n)) (roundP l (n - 1 + n)) P
              generalize roundP l (1 + n) = p1 at CAT1 cBI hDl hpr
              generalize roundP l (0 + n) = p2 at CAT2 cBI hDl hpr
              generalize roundP l (n - 2 + n) = p3 at CAT3 cBJ hEl hpr
              generalize roundP l (n - 1 + n) = p4 at CAT4 cBJ hEl hpr
              unfold PtsTo at cBI cBJ
              generalize tipM p1 p2 P = D at cBI hDl hpr
              generalize tipM p3 p4 P = E at cBJ hEl hpr
              have aDD := fun (q9 : Option Addr) (k9 : Nat) V (h1 : GatX V G xs) (h2 : RdV V V.heap.size q9 (ptRow D)) (h4 : D.length ≤ k9) => ADD.out xs D q9 k9 V h1 (by omega) h2 (by omega) h4
              have aDE := fun (q9 : Option Addr) (k9 : Nat) V (h1 : GatX V G (xs ++ [D])) (h2 : RdV V V.heap.size q9 (ptRow E)) (h4 : E.length ≤ k9) => ADD.out (xs ++ [D]) E q9 k9 V h1 (by rw [List.length_append, List.length_singleton]; omega) h2 (by omega) h4
              obtain ⟨dn, hdn⟩ : ∃ dn, D.length = dn := ⟨_, rfl⟩
              obtain ⟨en, hen⟩ : ∃ en, E.length = en := ⟨_, rfl⟩
              simp only [hdn] at cBI aDD
              simp only [hen] at cBJ aDE
              obtain ⟨x1, y1⟩ := p1
              obtain ⟨x2, y2⟩ := p2
              obtain ⟨x3, y3⟩ := p3
              obtain ⟨x4, y4⟩ := p4
              unfold ptV at CAT1 CAT2 CAT3 CAT4 cBI cBJ
              dsimp only at CAT1 CAT2 CAT3 CAT4 cBI cBJ
              have CBI := Lib.hid cBI
              have CBJ := Lib.hid cBJ
              have ADDI := Lib.hid aDD
              have ADDJ := Lib.hid aDE
              have HBX := Lib.hid hpr
              have H19 := Lib.hid (show Below G X wr.drew ∧ KeepT X wr.drew ∧ GatX wr.drew G xs from ⟨hW1.1.drew, hW1.2.1.trans (KeepT.of (Below.refl _ wr).drew), hW1.2.2.below (Below.refl _ wr).drew⟩)
              clear cBI cBJ aDD aDE hpr hxl hxs hDl hEl hdn hen hW1 hn4 l0 l1
              go_region_held3 (fun w' => (((w'.cell? ⟨w.heap.size + 1, 0, none⟩ = some (.int .i64 P.w) ∧ w'.cell? ⟨w.heap.size + 1, 1, none⟩ = some (.int .i64 P.cap) ∧ w'.cell? ⟨w.heap.size + 1, 2, none⟩ = some (.int .i64 P.join) ∧ w'.cell? ⟨w.heap.size + 1, 3, none⟩ = some (.int .i64 P.lim) ∧ w'.cell? ⟨w.heap.size + 1, 4, none⟩ = some (.slice B np d) ∧ w'.cell? ⟨w.heap.size + 1, 5, none⟩ = some (.int .i64 P.phase)) ∧ w'.cell? ⟨w.heap.size + 2, 0, none⟩ = some (.int .i64 (n : Int))) ∧ Below G X w' ∧ KeepT X w'))
                (first
                  | (with_reducible exact HSV.out _ H24.out.1 H24.out.2.1)
                  | (with_reducible exact HSV.out _ H23.out.1 H23.out.2.1)
                  | (with_reducible exact HSV.out _ H21.out.1 H21.out.2.1)
                  | (with_reducible exact HSV.out _ H20.out.1 H20.out.2.1)
                  | (with_reducible exact HSV.out _ H19.out.1 H19.out.2.1))
                ((first
                  | (go_at_call 18; (with_reducible refine Calls.mono (CAT1.out _ H19.out.1 H19.out.2.1) ?_); rintro e w20 ⟨rfl, bb⟩; (have H20 := Lib.hid (g_call H19.out bb)); clear bb)
                  | (go_at_call 18; (with_reducible refine Calls.mono (CAT2.out _ H20.out.1 H20.out.2.1) ?_); rintro e w21 ⟨rfl, bb⟩; (have H21 := Lib.hid (g_call H20.out bb)); clear bb)
                  | (go_at_call 22; (with_reducible refine Calls.mono (CBI.out _ H21.out.1 H21.out.2.1) ?_); rintro e w23 ⟨⟨q9, k9, rfl, hk9, hq9⟩, bb⟩; (have H23 := Lib.hid (g_call H21.out bb)); (have R9 := Lib.hid (And.intro hk9 hq9)); clear bb hk9 hq9)
                  | (go_at_call 12; (with_reducible refine Calls.mono (ADDI.out q9 k9 _ H23.out.2.2 R9.out.2 R9.out.1) ?_); rintro e w24 ⟨rfl, hg9, hb9, hk9⟩; (have H24 := Lib.hid (And.intro (H23.out.1.trans hb9) (And.intro (H23.out.2.1.trans hk9) hg9))); clear hg9 hb9 hk9)))
              rename_i hHeld
              clear hHeld
              go_wp2_with fail
              have H29 := Lib.hid (show Below G X w24.drew ∧ KeepT X w24.drew ∧ GatX w24.drew G (xs ++ [D]) from ⟨H24.out.1.drew, H24.out.2.1.trans (KeepT.of (Below.refl _ w24).drew), H24.out.2.2.below (Below.refl _ w24).drew⟩)
              go_region_held3 (fun w' => (((w'.cell? ⟨w.heap.size + 1, 0, none⟩ = some (.int .i64 P.w) ∧ w'.cell? ⟨w.heap.size + 1, 1, none⟩ = some (.int .i64 P.cap) ∧ w'.cell? ⟨w.heap.size + 1, 2, none⟩ = some (.int .i64 P.join) ∧ w'.cell? ⟨w.heap.size + 1, 3, none⟩ = some (.int .i64 P.lim) ∧ w'.cell? ⟨w.heap.size + 1, 4, none⟩ = some (.slice B np d) ∧ w'.cell? ⟨w.heap.size + 1, 5, none⟩ = some (.int .i64 P.phase)) ∧ w'.cell? ⟨w.heap.size + 2, 0, none⟩ = some (.int .i64 (n : Int))) ∧ Below G X w' ∧ KeepT X w'))
                (first
                  | (with_reducible exact HSV.out _ H34.out.1 H34.out.2.1)
                  | (with_reducible exact HSV.out _ H33.out.1 H33.out.2.1)
                  | (with_reducible exact HSV.out _ H31.out.1 H31.out.2.1)
                  | (with_reducible exact HSV.out _ H30.out.1 H30.out.2.1)
                  | (with_reducible exact HSV.out _ H29.out.1 H29.out.2.1))
                ((first
                  | (go_at_call 18; (with_reducible refine Calls.mono (CAT3.out _ H29.out.1 H29.out.2.1) ?_); rintro e w30 ⟨rfl, bb⟩; (have H30 := Lib.hid (g_call H29.out bb)); clear bb)
                  | (go_at_call 18; (with_reducible refine Calls.mono (CAT4.out _ H30.out.1 H30.out.2.1) ?_); rintro e w31 ⟨rfl, bb⟩; (have H31 := Lib.hid (g_call H30.out bb)); clear bb)
                  | (go_at_call 22; (with_reducible refine Calls.mono (CBJ.out _ H31.out.1 H31.out.2.1) ?_); rintro e w33 ⟨⟨q9, k9, rfl, hk9, hq9⟩, bb⟩; (have H33 := Lib.hid (g_call H31.out bb)); (have R9 := Lib.hid (And.intro hk9 hq9)); clear bb hk9 hq9)
                  | (go_at_call 12; (with_reducible refine Calls.mono (ADDJ.out q9 k9 _ H33.out.2.2 R9.out.2 R9.out.1) ?_); rintro e w34 ⟨rfl, hg9, hb9, hk9⟩; (have H34 := Lib.hid (And.intro (H33.out.1.trans hb9) (And.intro (H33.out.2.1.trans hk9) hg9))); clear hg9 hb9 hk9)))
              rename_i hHeld
              clear hHeld
              go_wp2_with fail
              go_end0
              refine ⟨rfl, ?_, (HX0.out.2.1.mono (Nat.le_of_lt HX0.out.2.2)).trans H34.out.1⟩
              rw [HBX.out]
              exact H34.out.2.2

end Go.Proofs.YtngnclibeccplaaDoor
/- Lines as areas, the program's own: Line. -/

namespace Go.Proofs.YtngnclibeccplaaDoor
open Go.RowKit Num

set_option maxRecDepth 10000 in
set_option maxHeartbeats 3200000 in
theorem stroke_drawF (q : Option Addr) (n k : Nat) (cl : Bool) (P : Pn) (B : Option Addr) (d : Nat) (f : Value) (w : World) (hn : n < 2) :
    Calls Tryd.prog 10 #[.agg #[.slice q n k, .bool cl], penV P B d, f] w fun e w' => e = .returned (.tuple #[]) ∧ Below w.heap.size w w' := by
  obtain ⟨W, X, hW, hX, hWb, k1, k2, k3, bX, sW, bW⟩ := draw_boxes w (.slice q n k) (.bool cl) (.int .i64 P.w) (.int .i64 P.cap) (.int .i64 P.join) (.int .i64 P.lim) (.slice B P.dash.length d) (.int .i64 P.phase) (n : Int)
  obtain ⟨⟨w0, w1⟩, -⟩ := Box.pair hWb.1
  have x0 := k3.cell 0 rfl
  have HB := Lib.hid bX
  have h2 : (n : Int) < 2 := by omega
  unfold penV
  generalize P.dash.length = np at *
  clear k1 k2 k3 hWb bX bW hn
  go_enter Tryd.func10, Tryd.ntmps10
  go_wp2_with first
    | (rw [hW])
    | (rw [hX])
  exact bodyPost_ret (by simp [results, Tryd.results10]) rfl ⟨rfl, HB.out⟩
theorem gatx_start {w : World} {G : Nat} {ov : Value} (h : Gat w G [] ov false) : GatX w G [] :=
  ⟨[], ov, rfl, by rw [show (!decide (FitA [])) = false from by rw [decide_eq_true (show FitA [] from fun x hx => by cases hx)]; rfl]; exact h⟩
theorem stroke_pen {L : List Pt} {cl : Bool} {P : Pn} (h : ¬ PenOk P) : strokeM L cl P = ([], 2) := by unfold strokeM; rw [if_neg h]
theorem stroke_far {L : List Pt} {cl : Bool} {P : Pn} (h : PenOk P) (h2 : ¬ FitL L) : strokeM L cl P = ([], 4) := by unfold strokeM; rw [if_pos h, if_neg h2]
theorem stroke_few {L : List Pt} {cl : Bool} {P : Pn} (h : PenOk P) (h2 : FitL L) (h3 : (lineM L cl).length < 2) : strokeM L cl P = ([], 0) := by unfold strokeM; rw [if_pos h, if_pos h2, if_pos h3]
theorem stroke_all {L : List Pt} {cl : Bool} {P : Pn} (h : PenOk P) (h2 : FitL L) (h3 : ¬ (lineM L cl).length < 2) : (FitA (partsM (lineM L cl) cl P) ∧ strokeM L cl P = (keepTo (partsM (lineM L cl) cl P) (partsM (lineM L cl) cl P).length, 0)) ∨ (¬ FitA (partsM (lineM L cl) cl P) ∧ strokeM L cl P = ([], 4)) := by
  unfold strokeM
  rw [if_pos h, if_pos h2, if_neg h3]
  by_cases h4 : FitA (partsM (lineM L cl) cl P)
  · exact .inl ⟨h4, if_pos h4⟩
  · exact .inr ⟨h4, if_neg h4⟩

set_option maxRecDepth 10000 in
set_option maxHeartbeats 12800000 in
theorem stroke_Line (L : List Pt) (A : Option Addr) (c : Nat) (cl : Bool) (P : Pn) (B : Option Addr) (d : Nat) (w : World) (hS : Sxt w) (hL : RdV w w.heap.size A (ptRow L)) (hl : L.length ≤ 1048576) (_hc : L.length ≤ c) (hP : RdV w w.heap.size B (icells P.dash)) (hp : P.dash.length ≤ 1048576) (hd : P.dash.length ≤ d) (_hx : PnIn P) :
    Calls Tryd.prog 4 #[.agg #[.slice A L.length c, .bool cl], penV P B d] w (StrokeTo L cl P w) := by
  obtain ⟨W, hW, k1, k2, bW⟩ := lp_boxes w (.slice A L.length c) (.bool cl) (.int .i64 P.w) (.int .i64 P.cap) (.int .i64 P.join) (.int .i64 P.lim) (.slice B P.dash.length d) (.int .i64 P.phase) 24 27
  have cM := fun V (h : Below W.heap.size W V) => stroke_May P B d V ((hP.on bW).on h) hp hd
  have cF := fun V (h : Below W.heap.size W V) => stroke_fit L A c V ((hL.on bW).on h) (by omega)
  have cA := fun V (h : Below W.heap.size W V) => stroke_apart L A c cl V ((hL.on bW).on h) hl
  have hlm := lineM_le L cl
  have HC := Lib.hid (fun V (h : Below W.heap.size W V) => show Box V w.heap.size 24 [.slice A L.length c, .bool cl] ∧ Box V (w.heap.size + 1) 27 [.int .i64 P.w, .int .i64 P.cap, .int .i64 P.join, .int .i64 P.lim, .slice B P.dash.length d, .int .i64 P.phase] ∧ Below w.heap.size w V from ⟨k1.below h k1.lt, k2.below h k2.lt, bW.trans (h.mono bW.size)⟩)
  obtain ⟨⟨l0, l1⟩, -⟩ := Box.pair k1
  obtain ⟨q0, q1, q2, q3, q4, q5⟩ := Box.six k2
  have hPW := hP.on bW
  have hSW := hS.on bW
  unfold StrokeTo
  obtain ⟨n, hn⟩ : ∃ n, L.length = n := ⟨_, rfl⟩
  obtain ⟨np, hnp⟩ : ∃ np, P.dash.length = np := ⟨_, rfl⟩
  by_cases hok : PenOk P
  · rw [decide_eq_true hok] at cM
    by_cases hf : FitL L
    · rw [decide_eq_true hf] at cF
      have hfl : FitL (lineM L cl) := fun p hp => hf p (lineM_mem hp)
      unfold ApartTo at cA
      by_cases h3 : (lineM L cl).length < 2
      · rw [stroke_few hok hf h3]
        have hGo := fun (q3 : Option Addr) (k3 : Nat) (f : Value) V => stroke_drawF q3 (lineM L cl).length k3 cl P B d f V h3
        obtain ⟨l, hll⟩ : ∃ l, lineM L cl = l := ⟨_, rfl⟩
        rw [hll] at cA hGo h3
        obtain ⟨m, hm⟩ : ∃ m, l.length = m := ⟨_, rfl⟩
        simp only [hm] at cA hGo
        unfold penV at cM hGo ⊢
        dsimp only
        simp only [hnp] at hGo
        have HDr := Lib.hid hGo
        have HGo := Lib.hid (show True from trivial)
        have HFe := HGo
        rw [hn, hnp]
        clear hGo h3 hll hm
        rw [hn] at cF cA hW HC l0
        rw [hnp] at cM hW HC q4
        have CM := Lib.hid cM
        have CF := Lib.hid cF
        have CA := Lib.hid cA
        have HPS := Lib.hid (And.intro hPW hSW)
        clear cM cF cA hn hnp hok hf hfl hS hL hl hP hp hd hPW hSW hlm k1 k2
        go_enter Tryd.func4, Tryd.ntmps4
        go_wp2_with first
          | (rw [hW])
          | (go_at_call 8; (with_reducible refine Calls.mono (CM.out _ (Below.refl _ _)) ?_); rintro e w1 ⟨rfl, b1⟩
             have B1 := Lib.hid b1
             clear l0 l1
             obtain ⟨⟨l0, l1⟩, -⟩ := Box.pair (HC.out w1 b1).1
             clear b1)
          | (go_at_call 9; (with_reducible refine Calls.mono (CF.out _ B1.out) ?_); rintro e w2 ⟨rfl, b2⟩
             have B2 := Lib.hid (B1.out.trans (b2.mono B1.out.size))
             have gN := Gat.new w2
             obtain ⟨V0, hV0⟩ : ∃ V0, w2.alloc (.cells #[.slice none 0 0, .bool false] 42) = V0 := ⟨_, rfl⟩
             rw [hV0] at gN
             have bN : Below w2.heap.size w2 V0 := by rw [← hV0]; exact below_new _ _
             have H0 := Lib.hid (And.intro gN bN)
             clear b2 gN bN)
          | (rw [hV0])
        have HBV := Lib.hid (fun V (hb : Below w2.heap.size V0 V) => show Below W.heap.size W V from B2.out.trans ((H0.out.2.trans hb).mono B2.out.size))
        have HSV := Lib.hid (fun V (hb : Below w2.heap.size V0 V) => show (fun w' => ((w'.cell? ⟨w.heap.size, 0, none⟩ = some (.slice A n c) ∧ w'.cell? ⟨w.heap.size, 1, none⟩ = some (.bool cl)) ∧ (w'.cell? ⟨w.heap.size + 1, 0, none⟩ = some (.int .i64 P.w) ∧ w'.cell? ⟨w.heap.size + 1, 1, none⟩ = some (.int .i64 P.cap) ∧ w'.cell? ⟨w.heap.size + 1, 2, none⟩ = some (.int .i64 P.join) ∧ w'.cell? ⟨w.heap.size + 1, 3, none⟩ = some (.int .i64 P.lim) ∧ w'.cell? ⟨w.heap.size + 1, 4, none⟩ = some (.slice B np d) ∧ w'.cell? ⟨w.heap.size + 1, 5, none⟩ = some (.int .i64 P.phase))) ∧ Below w2.heap.size V0 w') V from ⟨⟨(Box.pair (HC.out V (HBV.out V hb)).1).1, Box.six (HC.out V (HBV.out V hb)).2.1⟩, hb⟩)
        have D0 := Lib.hid (show Below w2.heap.size V0 V0.drew from (Below.refl _ _).drew)
        clear l0 l1 q0 q1 q2 q3 q4 q5 hW hV0
        go_region_held3 (fun w' => ((w'.cell? ⟨w.heap.size, 0, none⟩ = some (.slice A n c) ∧ w'.cell? ⟨w.heap.size, 1, none⟩ = some (.bool cl)) ∧ (w'.cell? ⟨w.heap.size + 1, 0, none⟩ = some (.int .i64 P.w) ∧ w'.cell? ⟨w.heap.size + 1, 1, none⟩ = some (.int .i64 P.cap) ∧ w'.cell? ⟨w.heap.size + 1, 2, none⟩ = some (.int .i64 P.join) ∧ w'.cell? ⟨w.heap.size + 1, 3, none⟩ = some (.int .i64 P.lim) ∧ w'.cell? ⟨w.heap.size + 1, 4, none⟩ = some (.slice B np d) ∧ w'.cell? ⟨w.heap.size + 1, 5, none⟩ = some (.int .i64 P.phase))) ∧ Below w2.heap.size V0 w')
          (first
            | (with_reducible exact HSV.out _ D4.out)
            | (with_reducible exact HSV.out _ D3.out)
            | (with_reducible exact HSV.out _ D0.out))
          ((first
            | (go_at_call 11; (with_reducible refine Calls.mono (CA.out _ (HBV.out _ D0.out)) ?_); rintro e w3 ⟨⟨v3, rfl, ho3⟩, b3⟩
               obtain ⟨q3, k3, rfl, -, -, -⟩ := RdV.ofOwnK ho3
               have D3 := Lib.hid (D0.out.trans (b3.mono (Nat.le_of_lt H0.out.1.box.lt)))
               have O3 := Lib.hid (own_mono ho3 (Nat.zero_le _))
               have G3 := Lib.hid (H0.out.1.below (show Below V0.heap.size V0 w3 from (Below.refl _ V0).drew.trans b3))
               clear ho3 b3)
            | (go_at_call 10; (with_reducible refine Calls.mono (HDr.out q3 k3 _ w3) ?_); rintro e w4 ⟨rfl, b4⟩
               have D4 := Lib.hid (D3.out.trans (b4.mono (Nat.le_of_lt G3.out.box.lt)))
               obtain ⟨⟨c0, c1⟩, -⟩ := Box.pair (G3.out.below b4).box
               clear b4)))
        all_goals
          go_wp2_with fail
          go_ret2
          exact ⟨⟨none, 0, [], rfl, rfl, Nat.le_refl _, RdAs.nil _ _ _⟩, (HC.out w4 (HBV.out w4 D4.out)).2.2⟩
      · have hGo := fun (q3 : Option Addr) (k3 : Nat) (G : Nat) V (h1 : Sxt V) (h2 : 0 < G) (h4 : V.ownsRow 0 34 2 (.slice q3 (lineM L cl).length k3) (lineM L cl).length (ptRow (lineM L cl))) (h5 : RdV V G B (icells P.dash)) (h6 : GatX V G []) => stroke_draw (lineM L cl) q3 k3 cl P B d G V h1 h2 hfl (by omega) h4 h5 hp hd hok h6 (by omega)
        have hal := stroke_all hok hf h3
        obtain ⟨R, hR⟩ : ∃ R, strokeM L cl P = R := ⟨_, rfl⟩
        rw [hR] at hal ⊢
        obtain ⟨Rl, Re⟩ := R
        obtain ⟨l, hll⟩ : ∃ l, lineM L cl = l := ⟨_, rfl⟩
        rw [hll] at cA hal h3
        simp only [hll] at hGo
        obtain ⟨m, hm⟩ : ∃ m, l.length = m := ⟨_, rfl⟩
        simp only [hm] at cA hGo
        generalize partsM l cl P = PT at hal hGo
        have HAL := Lib.hid hal
        unfold penV at cM hGo ⊢
        dsimp only
        simp only [hnp] at hGo
        have HDr := Lib.hid hGo
        rw [hn, hnp]
        clear hGo h3 hll hm hal hR
        rw [hn] at cF cA hW HC l0
        rw [hnp] at cM hW HC q4
        have CM := Lib.hid cM
        have CF := Lib.hid cF
        have CA := Lib.hid cA
        have HPS := Lib.hid (And.intro hPW hSW)
        clear cM cF cA hn hnp hok hf hfl hS hL hl hP hp hd hPW hSW hlm k1 k2
        go_enter Tryd.func4, Tryd.ntmps4
        go_wp2_with first
          | (rw [hW])
          | (go_at_call 8; (with_reducible refine Calls.mono (CM.out _ (Below.refl _ _)) ?_); rintro e w1 ⟨rfl, b1⟩
             have B1 := Lib.hid b1
             clear l0 l1
             obtain ⟨⟨l0, l1⟩, -⟩ := Box.pair (HC.out w1 b1).1
             clear b1)
          | (go_at_call 9; (with_reducible refine Calls.mono (CF.out _ B1.out) ?_); rintro e w2 ⟨rfl, b2⟩
             have B2 := Lib.hid (B1.out.trans (b2.mono B1.out.size))
             have gN := Gat.new w2
             obtain ⟨V0, hV0⟩ : ∃ V0, w2.alloc (.cells #[.slice none 0 0, .bool false] 42) = V0 := ⟨_, rfl⟩
             rw [hV0] at gN
             have bN : Below w2.heap.size w2 V0 := by rw [← hV0]; exact below_new _ _
             have H0 := Lib.hid (And.intro gN bN)
             clear b2 gN bN)
          | (rw [hV0])
        have HBV := Lib.hid (fun V (hb : Below w2.heap.size V0 V) => show Below W.heap.size W V from B2.out.trans ((H0.out.2.trans hb).mono B2.out.size))
        have HSV := Lib.hid (fun V (hb : Below w2.heap.size V0 V) => show (fun w' => ((w'.cell? ⟨w.heap.size, 0, none⟩ = some (.slice A n c) ∧ w'.cell? ⟨w.heap.size, 1, none⟩ = some (.bool cl)) ∧ (w'.cell? ⟨w.heap.size + 1, 0, none⟩ = some (.int .i64 P.w) ∧ w'.cell? ⟨w.heap.size + 1, 1, none⟩ = some (.int .i64 P.cap) ∧ w'.cell? ⟨w.heap.size + 1, 2, none⟩ = some (.int .i64 P.join) ∧ w'.cell? ⟨w.heap.size + 1, 3, none⟩ = some (.int .i64 P.lim) ∧ w'.cell? ⟨w.heap.size + 1, 4, none⟩ = some (.slice B np d) ∧ w'.cell? ⟨w.heap.size + 1, 5, none⟩ = some (.int .i64 P.phase))) ∧ Below w2.heap.size V0 w') V from ⟨⟨(Box.pair (HC.out V (HBV.out V hb)).1).1, Box.six (HC.out V (HBV.out V hb)).2.1⟩, hb⟩)
        have D0 := Lib.hid (show Below w2.heap.size V0 V0.drew from (Below.refl _ _).drew)
        clear l0 l1 q0 q1 q2 q3 q4 q5 hW hV0
        go_region_held3 (fun w' => ((w'.cell? ⟨w.heap.size, 0, none⟩ = some (.slice A n c) ∧ w'.cell? ⟨w.heap.size, 1, none⟩ = some (.bool cl)) ∧ (w'.cell? ⟨w.heap.size + 1, 0, none⟩ = some (.int .i64 P.w) ∧ w'.cell? ⟨w.heap.size + 1, 1, none⟩ = some (.int .i64 P.cap) ∧ w'.cell? ⟨w.heap.size + 1, 2, none⟩ = some (.int .i64 P.join) ∧ w'.cell? ⟨w.heap.size + 1, 3, none⟩ = some (.int .i64 P.lim) ∧ w'.cell? ⟨w.heap.size + 1, 4, none⟩ = some (.slice B np d) ∧ w'.cell? ⟨w.heap.size + 1, 5, none⟩ = some (.int .i64 P.phase))) ∧ Below w2.heap.size V0 w')
          (first
            | (with_reducible exact HSV.out _ D4.out)
            | (with_reducible exact HSV.out _ D3.out)
            | (with_reducible exact HSV.out _ D0.out))
          ((first
            | (go_at_call 11; (with_reducible refine Calls.mono (CA.out _ (HBV.out _ D0.out)) ?_); rintro e w3 ⟨⟨v3, rfl, ho3⟩, b3⟩
               obtain ⟨q3, k3, rfl, -, -, -⟩ := RdV.ofOwnK ho3
               have D3 := Lib.hid (D0.out.trans (b3.mono (Nat.le_of_lt H0.out.1.box.lt)))
               have O3 := Lib.hid (own_mono ho3 (Nat.zero_le _))
               have G3 := Lib.hid (H0.out.1.below (show Below V0.heap.size V0 w3 from (Below.refl _ V0).drew.trans b3))
               clear ho3 b3)
            | (go_at_call 10; (with_reducible refine Calls.mono (HDr.out q3 k3 w2.heap.size w3 (HPS.out.2.on (HBV.out _ D3.out)) (Nat.lt_of_lt_of_le (sxt_lt HPS.out.2) B2.out.size) O3.out (((HPS.out.1.below (HBV.out _ D3.out)).mono B2.out.size)) (gatx_start G3.out)) ?_); rintro e w4 ⟨rfl, g4, b4⟩
               have D4 := Lib.hid (D3.out.trans b4)
               have G4 := Lib.hid g4
               clear b4 g4)))
        all_goals
          rename_i hHeld
          clear hHeld
          obtain ⟨V, ov, h1, h2⟩ := G4.out
          obtain ⟨qv, kv, rfl, hkv, hrd⟩ := h2.rd
          obtain ⟨⟨c0, c1⟩, -⟩ := Box.pair h2.box
          have HE := Lib.hid (And.intro h1 (And.intro hkv hrd))
          obtain ⟨vn, hvn⟩ : ∃ vn, V.length = vn := ⟨_, rfl⟩
          have HVN := Lib.hid hvn
          rw [hvn] at c0
          clear h1 h2 hkv hrd hvn G4
          rcases HAL.out with ⟨h4, h5⟩ | ⟨h4, h5⟩
          · rw [decide_eq_true h4, Bool.not_true] at c1
            obtain ⟨rfl, rfl⟩ : Rl = keepTo PT PT.length ∧ Re = 0 := by simpa using h5
            clear h4 h5 HAL
            go_wp2_with fail
            go_ret2
            exact ⟨⟨qv, kv, V, by rw [HVN.out]; rfl, HE.out.1, HE.out.2.1, HE.out.2.2⟩, (HC.out w4 (HBV.out w4 D4.out)).2.2⟩
          · rw [decide_eq_false h4, Bool.not_false] at c1
            obtain ⟨rfl, rfl⟩ : Rl = [] ∧ Re = 4 := by simpa using h5
            clear h4 h5 HAL
            go_wp2_with fail
            go_ret2
            exact ⟨⟨none, 0, [], rfl, rfl, Nat.le_refl _, RdAs.nil _ _ _⟩, (HC.out w4 (HBV.out w4 D4.out)).2.2⟩
    · rw [stroke_far hok hf]
      rw [decide_eq_false hf] at cF
      unfold penV at cM ⊢
      dsimp only
      rw [hn] at cF hW HC l0 ⊢
      rw [hnp] at cM hW HC q4 ⊢
      have CM := Lib.hid cM
      have CF := Lib.hid cF
      clear cM cF cA hn hnp hok hf hS hL hl hP hp hd hPW hSW hlm k1 k2
      go_enter Tryd.func4, Tryd.ntmps4
      go_wp2_with first
        | (rw [hW])
        | (go_at_call 8; (with_reducible refine Calls.mono (CM.out _ (Below.refl _ _)) ?_); rintro e w1 ⟨rfl, b1⟩
           have B1 := Lib.hid b1
           obtain ⟨⟨l0, l1⟩, -⟩ := Box.pair (HC.out w1 b1).1
           clear b1)
        | (go_at_call 9; (with_reducible refine Calls.mono (CF.out _ B1.out) ?_); rintro e w2 ⟨rfl, b2⟩
           have B2 := Lib.hid (B1.out.trans (b2.mono B1.out.size))
           clear b2)
      go_ret2
      exact ⟨⟨none, 0, [], rfl, rfl, Nat.le_refl _, RdAs.nil _ _ _⟩, (HC.out w2 B2.out).2.2⟩
  · rw [stroke_pen hok]
    rw [decide_eq_false hok] at cM
    unfold penV at cM ⊢
    dsimp only
    rw [hn] at hW HC ⊢
    rw [hnp] at cM hW HC q4 ⊢
    have CM := Lib.hid cM
    clear cM cF cA hn hnp hok hS hL hl hP hp hd hPW hSW hlm k1 k2 l0 l1
    go_enter Tryd.func4, Tryd.ntmps4
    go_wp2_with first
      | (rw [hW])
      | (go_at_call 8; (with_reducible refine Calls.mono (CM.out _ (Below.refl _ _)) ?_); rintro e w1 ⟨rfl, b1⟩
         have B1 := Lib.hid b1
         clear b1)
    go_ret2
    exact ⟨⟨none, 0, [], rfl, rfl, Nat.le_refl _, RdAs.nil _ _ _⟩, (HC.out w1 B1.out).2.2⟩
end Go.Proofs.YtngnclibeccplaaDoor
