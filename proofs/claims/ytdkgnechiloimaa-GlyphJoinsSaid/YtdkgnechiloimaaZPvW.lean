/- Paths, the program's own: Count. -/
import Derived.Test.YtdkgnechiloimaaZPvX
import Derived.Test.YtdkgnechiloimaaZPtY
import Derived.Test.YtdkgnechiloimaaZBgB
namespace Go.Proofs.Ytdkgnechiloimaa
open Go.RowKit

theorem curve_end {l : List Pt} (hl : 0 < l.length) (h : FitL l) : lastP (curveP l) = lastP l := by
  have hp := piecesM_pos h
  have hlen := curveP_length l
  unfold lastP
  rw [hlen, getD_get (by omega), getD_get (by omega)]
  exact curveP_last hl hp _
/-- a box of one point is a row of one -/
theorem own_box {w : World} {g base : Nat} {x y : Value} (h : Box w g 24 [x, y]) (hb : base ≤ g) : w.ownsRow base 24 2 (.slice (some ⟨g, 0, none⟩) 1 1) 1 [x, y] :=
  ⟨rfl, .inr ⟨g, 1, #[x, y], rfl, hb, h, Nat.le_refl _, by decide, rfl, rfl⟩⟩
theorem st_news {w : World} {g : Nat} {s : St} (h : Box w g 49 (stCells s)) {vs : List Value} (hv : ∀ j u, vs[j]? = some u → (stCells s)[1 + j]? = some u) : ∀ j u, vs[j]? = some u → w.cell? ((⟨g, 1, none⟩ : Addr).add j) = some u := fun j u e => by
  rw [addr_add]
  exact h.cell (1 + j) (hv j u e)

set_option maxRecDepth 10000 in
set_option maxHeartbeats 12800000 in
theorem path_Count (L : List St) (A : Option Addr) (c : Nat) (w : World) (hL : RdV w w.heap.size A (stRow L)) (hl : L.length ≤ 4611686018427387904) :
    Calls Try.prog 23 #[.slice A L.length c] w fun e w' => e = .returned (.tuple #[.int .i64 (countM L : Int), .int .i64 (checkM L)]) ∧ Below w.heap.size w w' := by
  have cC := path_wrong L A c w hL hl
  obtain ⟨i0, hi0, hz0, hz1, hz2⟩ := info_parts info_pt
  obtain ⟨n, hn⟩ : ∃ n, L.length = n := ⟨_, rfl⟩
  have HN := Lib.hid hn
  have HL := Lib.hid hL
  obtain ⟨E, hE⟩ : ∃ E, checkM L = E := ⟨_, rfl⟩
  obtain ⟨T, hT⟩ : ∃ T, countM L = T := ⟨_, rfl⟩
  rw [hn, hE] at cC
  rw [hn, hE, hT]
  have CC := Lib.hid cC
  by_cases hz : E = 0
  · subst hz
    have h200 : n ≤ 200 := by
      rw [← hn]
      unfold checkM at hE
      split at hE
      · omega
      · omega
    have HG := Lib.hid (show checkGo (prevAt L 0) (L.drop 0) = 0 by
      unfold checkM at hE
      split at hE
      · omega
      · exact hE)
    have HT := Lib.hid (show 0 + countGo pt0 (L.drop 0) = T by rw [← hT]; unfold countM; rw [if_pos hE]; simp)
    clear cC hn hL hE hT
    go_enter Try.func23, Try.ntmps23
    go_wp2_with (go_at_call 24; (with_reducible refine Calls.mono CC.out ?_); rintro e w1 ⟨rfl, b1⟩)
    obtain ⟨W, hW, kW, bW⟩ := endP w1 24 (.int .i64 0) (.int .i64 0)
    have HK := Lib.hid (And.intro kW (b1.trans (bW.mono b1.size)))
    have hw1 := b1.size
    clear b1 kW bW
    rw [hW]
    go_loopg [5, 17] n (fun gh nv iv wr => ∃ (i acc : Nat) (p : Pt), iv = .int .i64 (i : Int) ∧ nv = .int .i64 (acc : Int) ∧ gh + i = n ∧ FitP p ∧ checkGo (prevAt L i) (L.drop i) = 0 ∧ acc + countGo p (L.drop i) = T ∧ acc ≤ 32 * i ∧ Box wr w1.heap.size 24 [.int .i64 p.x, .int .i64 p.y] ∧ Below w.heap.size w wr)
    case atStart => exact ⟨0, 0, pt0, rfl, rfl, by omega, by decide, HG.out, HT.out, by omega, HK.out.1, HK.out.2⟩
    case round =>
      obtain ⟨i, acc, p, rfl, rfl, hg, hfit, hchk, hcnt, hacc, kB, hB⟩ := hrel
      have HGI := Lib.hid hg
      by_cases hlt : i < n
      · have hlt' : i < L.length := by rw [HN.out]; exact hlt
        obtain ⟨b, o, rfl, hb, e0, e1, e2, e3, e4, e5, e6⟩ := (HL.out.below hB).st (i := i) hlt'
        have hil : (i : Int) < (n : Int) := by omega
        have hst := checkGo_step hlt'
        rw [hchk] at hst
        rw [countGo_step hlt' p] at hcnt
        obtain ⟨s, hs⟩ : ∃ s, L[i] = s := ⟨_, rfl⟩
        rw [hs] at e0 e1 e2 e3 e4 e5 e6 hst hcnt
        have hbad : badM (prevAt L i) s = 0 := by
          by_cases h : badM (prevAt L i) s = 0
          · exact h
          · rw [if_neg h] at hst; exact absurd hst.symm h
        rw [if_pos hbad] at hst
        obtain ⟨g3, g4, -, -⟩ := step_fits hbad hfit
        have hgf := goes_fit hbad hfit
        have h5 := (badM_zero hbad).1
        have hun : ¬ usesM s.op < 0 := fun h => by have := badM_no (prev := prevAt L i) h; omega
        obtain ⟨W2, hW2, kW2, bW2, hWs2⟩ := boxSt wr s
        obtain ⟨W3, hW3, kW3, bW3, hWs3⟩ := boxSt W2 s
        have hw12 : w1.heap.size < wr.heap.size := kB.lt
        have hw23 : wr.heap.size < W2.heap.size := kW2.lt
        have hw34 : W2.heap.size < W3.heap.size := kW3.lt
        have cO := path_points s hun W2 W3 hW3
        have kB3 := ((kB.below bW2 hw12).below bW3 (by omega))
        have HB3 := Lib.hid (hB.trans ((bW2.trans (bW3.mono (by omega))).mono hB.size))
        have HK3 := Lib.hid (And.intro kB3 kW3)
        have hcell := fun U (h : Below W3.heap.size W3 U) => ((kW2.below bW3 hw23).below h (by omega)).st
        have hown := fun U (h : Below W3.heap.size W3 U) => (kW3.below h hw34).st
        obtain ⟨x0, x1, x2, x3, x4, x5, x6⟩ := kW2.st
        have HCE := Lib.hid hcell
        have HOC := Lib.hid hown
        have HX := Lib.hid (And.intro hgf (And.intro hst.symm hcnt))
        have HG3 := Lib.hid (And.intro g3 g4)
        have HFP := Lib.hid hfit
        obtain ⟨op, ⟨p0, p1⟩, ⟨q0, q1⟩, ⟨r0, r1⟩⟩ := s
        obtain ⟨px, py⟩ := p
        unfold stV at cO
        dsimp only at e0 e1 e2 e3 e4 e5 e6 x0 x1 x2 x3 x4 x5 x6 hW2 hW3 cO kB kB3 h5 hcell hown
        have CO0 := Lib.hid cO
        obtain ⟨⟨z0, z1⟩, z2, z3⟩ := Box.pair kB3
        obtain ⟨y0, -, -, -, -, -, -⟩ := hcell W3 (Below.refl _ _)
        obtain ⟨v0, v1, v2, v3, v4, v5, v6⟩ := hown W3 (Below.refl _ _)
        clear cO kW2 bW2 kW3 bW3 kB kB3 hB hst hcnt hbad hgf hs hlt' hchk hfit hun hcell hown hWs2 hWs3 g3 g4
        rcases h5 with rfl | rfl | rfl | rfl | rfl
        · have co := CO0.out
          simp only [show (usesM 1).toNat = 1 from rfl] at co
          have CO := Lib.hid co
          clear co CO0
          have hco : costM ⟨px, py⟩ ⟨1, ⟨p0, p1⟩, ⟨q0, q1⟩, ⟨r0, r1⟩⟩ = 0 := rfl
          have hgo : goesM ⟨px, py⟩ ⟨1, ⟨p0, p1⟩, ⟨q0, q1⟩, ⟨r0, r1⟩⟩ = ⟨p0, p1⟩ := rfl
          have hX3 := HX.out
          rw [hco, hgo] at hX3
          have HX3 := Lib.hid hX3
          clear hX3 hco hgo HG3
          obtain ⟨U, hU, kU, -, bU⟩ := HK3.out.1.stored2 (.int .i64 p0) (.int .i64 p1)
          have HE := Lib.hid (And.intro kU (HB3.out.trans (bU w.heap.size hw1)))
          clear kU bU
          go_wp2_with first
            | (rw [hW2])
            | (go_at_call 25; (with_reducible refine Calls.mono CO.out ?_); rintro e w2 ⟨rfl, rfl⟩)
          try rw [hU]
          go_roundg (n - (i + 1))
          case measure => have := HGI.out; omega
          case rel => exact ⟨i + 1, acc, ⟨p0, p1⟩, by simp, by simp, by have := HGI.out; omega, HX3.out.1, HX3.out.2.1, by have := HX3.out.2.2; omega, by omega, HE.out.1, HE.out.2⟩
        · have co := CO0.out
          simp only [show (usesM 2).toNat = 1 from rfl] at co
          have CO := Lib.hid co
          clear co CO0
          have hco : costM ⟨px, py⟩ ⟨2, ⟨p0, p1⟩, ⟨q0, q1⟩, ⟨r0, r1⟩⟩ = 1 := rfl
          have hgo : goesM ⟨px, py⟩ ⟨2, ⟨p0, p1⟩, ⟨q0, q1⟩, ⟨r0, r1⟩⟩ = ⟨p0, p1⟩ := rfl
          have hX3 := HX.out
          rw [hco, hgo] at hX3
          have HX3 := Lib.hid hX3
          clear hX3 hco hgo HG3
          have hwa : IntKind.i64.wrap ((acc : Int) + 1) = (acc : Int) + 1 := IntWalk.i64_in _ (by omega)
          obtain ⟨U, hU, kU, -, bU⟩ := HK3.out.1.stored2 (.int .i64 p0) (.int .i64 p1)
          have HE := Lib.hid (And.intro kU (HB3.out.trans (bU w.heap.size hw1)))
          clear kU bU
          go_wp2_with first
            | (rw [hW2])
            | (go_at_call 25; (with_reducible refine Calls.mono CO.out ?_); rintro e w2 ⟨rfl, rfl⟩)
          try rw [hU]
          go_roundg (n - (i + 1))
          case measure => have := HGI.out; omega
          case rel => exact ⟨i + 1, acc + 1, ⟨p0, p1⟩, by simp, by simp, by have := HGI.out; omega, HX3.out.1, HX3.out.2.1, by have := HX3.out.2.2; omega, by omega, HE.out.1, HE.out.2⟩
        · have co := CO0.out
          simp only [show (usesM 3).toNat = 2 from rfl] at co
          have CO := Lib.hid co
          clear co CO0
          have hfl : FitL [⟨px, py⟩, ⟨p0, p1⟩, ⟨q0, q1⟩] := HG3.out.1 rfl
          have hpos := piecesM_pos hfl
          have hple := piecesM_le [⟨px, py⟩, ⟨p0, p1⟩, ⟨q0, q1⟩]
          have hpm : pointsM ⟨px, py⟩ ⟨3, ⟨p0, p1⟩, ⟨q0, q1⟩, ⟨r0, r1⟩⟩ = curveP [⟨px, py⟩, ⟨p0, p1⟩, ⟨q0, q1⟩] := rfl
          have hgo : goesM ⟨px, py⟩ ⟨3, ⟨p0, p1⟩, ⟨q0, q1⟩, ⟨r0, r1⟩⟩ = ⟨q0, q1⟩ := by
            unfold goesM
            rw [hpm, if_neg (fun h => by have h2 := congrArg List.length h; rw [curveP_length] at h2; simp at h2; omega), curve_end (by simp) hfl]
            rfl
          have hco : costM ⟨px, py⟩ ⟨3, ⟨p0, p1⟩, ⟨q0, q1⟩, ⟨r0, r1⟩⟩ = piecesM [⟨px, py⟩, ⟨p0, p1⟩, ⟨q0, q1⟩] := by
            unfold costM
            rw [hpm, curveP_length, if_neg (show ¬ (3 : Int) = 1 by decide)]
            omega
          have cP := fun (q : Option Addr) (k : Nat) (V : World) (h : RdV V V.heap.size q (ptRow [⟨px, py⟩, ⟨p0, p1⟩, ⟨q0, q1⟩])) => show Calls Try.prog 26 #[.slice q 3 k] V (fun e w' => e = .returned (.int .i64 (piecesM [⟨px, py⟩, ⟨p0, p1⟩, ⟨q0, q1⟩] : Int)) ∧ Below V.heap.size V w') from bez_Pieces [⟨px, py⟩, ⟨p0, p1⟩, ⟨q0, q1⟩] q k V h (by simp)
          obtain ⟨co, hcv⟩ : ∃ co, piecesM [⟨px, py⟩, ⟨p0, p1⟩, ⟨q0, q1⟩] = co := ⟨_, rfl⟩
          rw [hcv] at hco hpos hple
          simp only [hcv] at cP
          have CP := Lib.hid cP
          clear hfl hpm cP hcv
          have hX3 := HX.out
          rw [hco, hgo] at hX3
          have HX3 := Lib.hid hX3
          clear hX3 hco hgo HG3
          have hwa : IntKind.i64.wrap ((acc : Int) + (co : Int)) = (acc : Int) + (co : Int) := IntWalk.i64_in _ (by omega)
          obtain ⟨W4, hW4, kW4, bW4⟩ := endP W3 24 (.int .i64 px) (.int .i64 py)
          have HW4 := Lib.hid (And.intro (own_box kW4 (Nat.le_refl _)) (And.intro bW4 (HK3.out.2.below bW4 hw34)))
          have hn4 : ∀ j u, ([.int .i64 p0, .int .i64 p1, .int .i64 q0, .int .i64 q1] : List Value)[j]? = some u → W4.cell? ((⟨W2.heap.size, 1, none⟩ : Addr).add j) = some u := st_news HW4.out.2.2 (fun j u h => by
            rw [Nat.add_comm]
            match j, h with
            | 0, h => exact h
            | 1, h => exact h
            | 2, h => exact h
            | 3, h => exact h
            | j + 4, h => simp at h)
          have HN4 := Lib.hid hn4
          have hw44 : W3.heap.size < W4.heap.size := kW4.lt
          clear kW4 bW4 hn4
          go_wp2_with first
            | (rw [hW2])
            | (rw [hW4])
            | (go_at_call 25; (with_reducible refine Calls.mono CO.out ?_); rintro e w2 ⟨rfl, rfl⟩)
            | (at_builtin; refine wpList_append_own _ rfl _ _ 70 rfl W3.heap.size 24 i0 (.agg #[.int .i64 0, .int .i64 0]) 2 16 Try.underlying70 hi0 hz0 hz1 hz2 rfl (by decide) _ 1 [.int .i64 px, .int .i64 py] rfl HW4.out.1 ⟨W2.heap.size, 1, none⟩ 2 3 [.int .i64 p0, .int .i64 p1, .int .i64 q0, .int .i64 q1] rfl rfl HN4.out (by simp [Value.oneCell']) (by decide) (by decide) (by omega) ?_; intro v9 w9 hown9 hgrow9 _
               obtain ⟨q9, k9, hv9, -, -, hr9⟩ := RdV.ofOwnK hown9
               subst hv9
               have H9 := Lib.hid (And.intro (show RdV w9 w9.heap.size q9 (ptRow [⟨px, py⟩, ⟨p0, p1⟩, ⟨q0, q1⟩]) from hr9) (below_grow2 HW4.out.2.1 HW4.out.1 (Nat.le_of_lt hw44) hgrow9))
               clear hown9 hgrow9 hr9)
            | (go_at_call 26; (refine Calls.mono (CP.out q9 k9 w9 H9.out.1) ?_); rintro e w10 ⟨rfl, b10⟩
               have HB10 := Lib.hid (H9.out.2.trans (b10.mono H9.out.2.size))
               clear b10
               have k10 := HK3.out.1.below HB10.out (by omega)
               obtain ⟨⟨z0, z1⟩, z2, z3⟩ := Box.pair k10
               obtain ⟨-, -, -, m3, m4, -, -⟩ := HOC.out _ HB10.out
               try dsimp only at m3 m4
               obtain ⟨U, hU, kU, -, bU⟩ := k10.stored2 (.int .i64 q0) (.int .i64 q1)
               have HE := Lib.hid (And.intro kU (HB3.out.trans ((HB10.out.mono (by omega)).trans (bU w.heap.size hw1))))
               clear kU bU k10)
          try rw [hU]
          go_roundg (n - (i + 1))
          case measure => have := HGI.out; omega
          case rel => exact ⟨i + 1, acc + co, ⟨q0, q1⟩, by simp, by simp, by have := HGI.out; omega, HX3.out.1, HX3.out.2.1, by have := HX3.out.2.2; omega, by omega, HE.out.1, HE.out.2⟩
        · have co := CO0.out
          simp only [show (usesM 4).toNat = 3 from rfl] at co
          have CO := Lib.hid co
          clear co CO0
          have hfl : FitL [⟨px, py⟩, ⟨p0, p1⟩, ⟨q0, q1⟩, ⟨r0, r1⟩] := HG3.out.2 rfl
          have hpos := piecesM_pos hfl
          have hple := piecesM_le [⟨px, py⟩, ⟨p0, p1⟩, ⟨q0, q1⟩, ⟨r0, r1⟩]
          have hpm : pointsM ⟨px, py⟩ ⟨4, ⟨p0, p1⟩, ⟨q0, q1⟩, ⟨r0, r1⟩⟩ = curveP [⟨px, py⟩, ⟨p0, p1⟩, ⟨q0, q1⟩, ⟨r0, r1⟩] := rfl
          have hgo : goesM ⟨px, py⟩ ⟨4, ⟨p0, p1⟩, ⟨q0, q1⟩, ⟨r0, r1⟩⟩ = ⟨r0, r1⟩ := by
            unfold goesM
            rw [hpm, if_neg (fun h => by have h2 := congrArg List.length h; rw [curveP_length] at h2; simp at h2; omega), curve_end (by simp) hfl]
            rfl
          have hco : costM ⟨px, py⟩ ⟨4, ⟨p0, p1⟩, ⟨q0, q1⟩, ⟨r0, r1⟩⟩ = piecesM [⟨px, py⟩, ⟨p0, p1⟩, ⟨q0, q1⟩, ⟨r0, r1⟩] := by
            unfold costM
            rw [hpm, curveP_length, if_neg (show ¬ (4 : Int) = 1 by decide)]
            omega
          have cP := fun (q : Option Addr) (k : Nat) (V : World) (h : RdV V V.heap.size q (ptRow [⟨px, py⟩, ⟨p0, p1⟩, ⟨q0, q1⟩, ⟨r0, r1⟩])) => show Calls Try.prog 26 #[.slice q 4 k] V (fun e w' => e = .returned (.int .i64 (piecesM [⟨px, py⟩, ⟨p0, p1⟩, ⟨q0, q1⟩, ⟨r0, r1⟩] : Int)) ∧ Below V.heap.size V w') from bez_Pieces [⟨px, py⟩, ⟨p0, p1⟩, ⟨q0, q1⟩, ⟨r0, r1⟩] q k V h (by simp)
          obtain ⟨co, hcv⟩ : ∃ co, piecesM [⟨px, py⟩, ⟨p0, p1⟩, ⟨q0, q1⟩, ⟨r0, r1⟩] = co := ⟨_, rfl⟩
          rw [hcv] at hco hpos hple
          simp only [hcv] at cP
          have CP := Lib.hid cP
          clear hfl hpm cP hcv
          have hX3 := HX.out
          rw [hco, hgo] at hX3
          have HX3 := Lib.hid hX3
          clear hX3 hco hgo HG3
          have hwa : IntKind.i64.wrap ((acc : Int) + (co : Int)) = (acc : Int) + (co : Int) := IntWalk.i64_in _ (by omega)
          obtain ⟨W4, hW4, kW4, bW4⟩ := endP W3 24 (.int .i64 px) (.int .i64 py)
          have HW4 := Lib.hid (And.intro (own_box kW4 (Nat.le_refl _)) (And.intro bW4 (HK3.out.2.below bW4 hw34)))
          have hn4 : ∀ j u, ([.int .i64 p0, .int .i64 p1, .int .i64 q0, .int .i64 q1, .int .i64 r0, .int .i64 r1] : List Value)[j]? = some u → W4.cell? ((⟨W2.heap.size, 1, none⟩ : Addr).add j) = some u := st_news HW4.out.2.2 (fun j u h => by
            rw [Nat.add_comm]
            match j, h with
            | 0, h => exact h
            | 1, h => exact h
            | 2, h => exact h
            | 3, h => exact h
            | 4, h => exact h
            | 5, h => exact h
            | j + 6, h => simp at h)
          have HN4 := Lib.hid hn4
          have hw44 : W3.heap.size < W4.heap.size := kW4.lt
          clear kW4 bW4 hn4
          go_wp2_with first
            | (rw [hW2])
            | (rw [hW4])
            | (go_at_call 25; (with_reducible refine Calls.mono CO.out ?_); rintro e w2 ⟨rfl, rfl⟩)
            | (at_builtin; refine wpList_append_own _ rfl _ _ 70 rfl W3.heap.size 24 i0 (.agg #[.int .i64 0, .int .i64 0]) 2 16 Try.underlying70 hi0 hz0 hz1 hz2 rfl (by decide) _ 1 [.int .i64 px, .int .i64 py] rfl HW4.out.1 ⟨W2.heap.size, 1, none⟩ 3 3 [.int .i64 p0, .int .i64 p1, .int .i64 q0, .int .i64 q1, .int .i64 r0, .int .i64 r1] rfl rfl HN4.out (by simp [Value.oneCell']) (by decide) (by decide) (by omega) ?_; intro v9 w9 hown9 hgrow9 _
               obtain ⟨q9, k9, hv9, -, -, hr9⟩ := RdV.ofOwnK hown9
               subst hv9
               have H9 := Lib.hid (And.intro (show RdV w9 w9.heap.size q9 (ptRow [⟨px, py⟩, ⟨p0, p1⟩, ⟨q0, q1⟩, ⟨r0, r1⟩]) from hr9) (below_grow2 HW4.out.2.1 HW4.out.1 (Nat.le_of_lt hw44) hgrow9))
               clear hown9 hgrow9 hr9)
            | (go_at_call 26; (refine Calls.mono (CP.out q9 k9 w9 H9.out.1) ?_); rintro e w10 ⟨rfl, b10⟩
               have HB10 := Lib.hid (H9.out.2.trans (b10.mono H9.out.2.size))
               clear b10
               have k10 := HK3.out.1.below HB10.out (by omega)
               obtain ⟨⟨z0, z1⟩, z2, z3⟩ := Box.pair k10
               obtain ⟨-, -, -, -, -, m3, m4⟩ := HOC.out _ HB10.out
               try dsimp only at m3 m4
               obtain ⟨U, hU, kU, -, bU⟩ := k10.stored2 (.int .i64 r0) (.int .i64 r1)
               have HE := Lib.hid (And.intro kU (HB3.out.trans ((HB10.out.mono (by omega)).trans (bU w.heap.size hw1))))
               clear kU bU k10)
          try rw [hU]
          go_roundg (n - (i + 1))
          case measure => have := HGI.out; omega
          case rel => exact ⟨i + 1, acc + co, ⟨r0, r1⟩, by simp, by simp, by have := HGI.out; omega, HX3.out.1, HX3.out.2.1, by have := HX3.out.2.2; omega, by omega, HE.out.1, HE.out.2⟩
        · have co := CO0.out
          simp only [show (usesM 5).toNat = 0 from rfl] at co
          have CO := Lib.hid co
          clear co CO0
          have hco : costM ⟨px, py⟩ ⟨5, ⟨p0, p1⟩, ⟨q0, q1⟩, ⟨r0, r1⟩⟩ = 1 := rfl
          have hgo : goesM ⟨px, py⟩ ⟨5, ⟨p0, p1⟩, ⟨q0, q1⟩, ⟨r0, r1⟩⟩ = ⟨px, py⟩ := rfl
          have hX3 := HX.out
          rw [hco, hgo] at hX3
          have HX3 := Lib.hid hX3
          clear hX3 hco hgo HG3
          have hwa : IntKind.i64.wrap ((acc : Int) + 1) = (acc : Int) + 1 := IntWalk.i64_in _ (by omega)
          go_wp2_with first
            | (rw [hW2])
            | (go_at_call 25; (with_reducible refine Calls.mono CO.out ?_); rintro e w2 ⟨rfl, rfl⟩)
          go_roundg (n - (i + 1))
          case measure => have := HGI.out; omega
          case rel => exact ⟨i + 1, acc + 1, ⟨px, py⟩, by simp, by simp, by have := HGI.out; omega, HX3.out.1, HX3.out.2.1, by have := HX3.out.2.2; omega, by omega, HK3.out.1, HB3.out⟩
      · obtain rfl : i = n := by omega
        have hend : acc = T := by rw [← hcnt, ← HN.out, List.drop_length]; rfl
        have HB := Lib.hid (And.intro hend hB)
        have hil : ¬ (i : Int) < (i : Int) := by omega
        clear hend hB hcnt hchk kB
        go_wp2_with fail
        go_ret2
        exact ⟨by rw [HB.out.1]; rfl, HB.out.2⟩
  · have hT0 : T = 0 := by rw [← hT]; unfold countM; rw [if_neg (by rw [hE]; exact hz)]
    subst hT0
    have hzb : (E == 0) = false := by simpa using hz
    clear cC hn hL hE hT
    go_enter Try.func23, Try.ntmps23
    go_wp2_with (go_at_call 24; (with_reducible refine Calls.mono CC.out ?_); rintro e w1 ⟨rfl, b1⟩)
    go_ret2
    exact ⟨rfl, b1⟩
end Go.Proofs.Ytdkgnechiloimaa
