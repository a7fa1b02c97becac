/- Paths, the program's own: Count. -/
import Derived.Test.YtbgjpmijegeeiaaZPvX
import Derived.Test.YtbgjpmijegeeiaaZPtY
import Derived.Test.YtbgjpmijegeeiaaZBgB
import Derived.BigRegion
import Derived.Test.YtbgjpmijegeeiaaZPvZ
namespace Go.Proofs.Ytbgjpmijegeeiaa
open Go.RowKit

theorem curve_end {l : List Pt} (hl : 0 < l.length) (h : FitL l) : lastP (curveP l) = lastP l := by
  have hp := piecesM_pos h
  have hlen := curveP_length l
  unfold lastP
  rw [hlen, getD_get (by omega), getD_get (by omega)]
  exact curveP_last hl hp _
/-- a box of one point is a row of one -/
theorem own_box {w : World} {g base : Nat} {x y : Value} (h : Box w g 42 [x, y]) (hb : base ≤ g) : w.ownsRow base 42 2 (.slice (some ⟨g, 0, none⟩) 1 1) 1 [x, y] :=
  ⟨rfl, .inr ⟨g, 1, #[x, y], rfl, hb, h, Nat.le_refl _, by decide, rfl, rfl⟩⟩
theorem st_news {w : World} {g : Nat} {s : St} (h : Box w g 52 (stCells s)) {vs : List Value} (hv : ∀ j u, vs[j]? = some u → (stCells s)[1 + j]? = some u) : ∀ j u, vs[j]? = some u → w.cell? ((⟨g, 1, none⟩ : Addr).add j) = some u := fun j u e => by
  rw [addr_add]
  exact h.cell (1 + j) (hv j u e)

set_option maxRecDepth 10000 in
set_option maxHeartbeats 12800000 in
theorem path_Count (L : List St) (A : Option Addr) (c : Nat) (w : World) (hL : RdV w w.heap.size A (stRow L)) (hl : L.length ≤ 4611686018427387904) :
    Calls Try.prog 8 #[.slice A L.length c] w fun e w' => e = .returned (.tuple #[.int .i64 (countM L : Int), .int .i64 (checkM L)]) ∧ Below w.heap.size w w' := by
  have cC := path_wrong L A c w hL hl
  obtain ⟨i0, hi0, hz0, hz1, hz2⟩ := info_parts info_pt
  obtain ⟨n, hn⟩ : ∃ n, L.length = n := ⟨_, rfl⟩
  have HN := Lib.hid hn
  have HL := Lib.hid hL
  obtain ⟨E, hE⟩ : ∃ E, checkM L = E := ⟨_, rfl⟩
  obtain ⟨T, hT⟩ : ∃ T, countM L = T := ⟨_, rfl⟩
  rw [hn, hE] at cC
  rw [hn, hE, hT]
  have CC := Lib.hid cC
  by_cases hz : E = 0
  · subst hz
    have h200 : n ≤ 200 := by
      rw [← hn]
      unfold checkM at hE
      split at hE
      · omega
      · omega
    have HG := Lib.hid (show checkGo (prevAt L 0) (L.drop 0) = 0 by
      unfold checkM at hE
      split at hE
      · omega
      · exact hE)
    have HT := Lib.hid (show 0 + countGo pt0 (L.drop 0) = T by rw [← hT]; unfold countM; rw [if_pos hE]; simp)
    clear cC hn hL hE hT
    go_enter Try.func8, Try.ntmps8
    go_wp2_with (go_at_call 17; (with_reducible refine Calls.mono CC.out ?_); rintro e w1 ⟨rfl, b1⟩)
    obtain ⟨W, hW, kW, bW⟩ := endP w1 42 (.int .i64 0) (.int .i64 0)
    have HK := Lib.hid (And.intro kW (b1.trans (bW.mono b1.size)))
    have hw1 := b1.size
    clear b1 kW bW
    rw [hW]
    go_loopg [5, 17] n (fun gh nv iv wr => ∃ (i acc : Nat) (p : Pt), iv = .int .i64 (i : Int) ∧ nv = .int .i64 (acc : Int) ∧ gh + i = n ∧ FitP p ∧ checkGo (prevAt L i) (L.drop i) = 0 ∧ acc + countGo p (L.drop i) = T ∧ acc ≤ 32 * i ∧ Box wr w1.heap.size 42 [.int .i64 p.x, .int .i64 p.y] ∧ Below w.heap.size w wr)
    case atStart => exact ⟨0, 0, pt0, rfl, rfl, by omega, by decide, HG.out, HT.out, by omega, HK.out.1, HK.out.2⟩
    case round =>
      obtain ⟨i, acc, p, rfl, rfl, hg, hfit, hchk, hcnt, hacc, kB, hB⟩ := hrel
      have HGI := Lib.hid hg
      by_cases hlt : i < n
      · have hlt' : i < L.length := by rw [HN.out]; exact hlt
        obtain ⟨b, o, rfl, hb, e0, e1, e2, e3, e4, e5, e6⟩ := (HL.out.below hB).st (i := i) hlt'
        have hil : (i : Int) < (n : Int) := by omega
        have hst := checkGo_step hlt'
        rw [hchk] at hst
        rw [countGo_step hlt' p] at hcnt
        obtain ⟨s, hs⟩ : ∃ s, L[i] = s := ⟨_, rfl⟩
        rw [hs] at e0 e1 e2 e3 e4 e5 e6 hst hcnt
        have hbad : badM (prevAt L i) s = 0 := by
          by_cases h : badM (prevAt L i) s = 0
          · exact h
          · rw [if_neg h] at hst; exact absurd hst.symm h
        rw [if_pos hbad] at hst
        obtain ⟨g3, g4, -, -⟩ := step_fits hbad hfit
        have hgf := goes_fit hbad hfit
        have h5 := (badM_zero hbad).1
        have hun : ¬ usesM s.op < 0 := fun h => by have := badM_no (prev := prevAt L i) h; omega
        obtain ⟨W2, hW2, kW2, bW2, hWs2⟩ := boxSt wr s
        obtain ⟨W3, hW3, kW3, bW3, hWs3⟩ := boxSt W2 s
        have hw12 : w1.heap.size < wr.heap.size := kB.lt
        have hw23 : wr.heap.size < W2.heap.size := kW2.lt
        have hw34 : W2.heap.size < W3.heap.size := kW3.lt
        have cO := path_points s hun W2 W3 hW3
        have kB3 := ((kB.below bW2 hw12).below bW3 (by omega))
        have HB3 := Lib.hid (hB.trans ((bW2.trans (bW3.mono (by omega))).mono hB.size))
        have HK3 := Lib.hid (And.intro kB3 kW3)
        have hcell := fun U (h : Below W3.heap.size W3 U) => ((kW2.below bW3 hw23).below h (by omega)).st
        have hown := fun U (h : Below W3.heap.size W3 U) => (kW3.below h hw34).st
        obtain ⟨x0, x1, x2, x3, x4, x5, x6⟩ := kW2.st
        have HCE := Lib.hid hcell
        have HOC := Lib.hid hown
        have HX := Lib.hid (And.intro hgf (And.intro hst.symm hcnt))
        have HG3 := Lib.hid (And.intro g3 g4)
        have HFP := Lib.hid hfit
        obtain ⟨op, ⟨p0, p1⟩, ⟨q0, q1⟩, ⟨r0, r1⟩⟩ := s
        obtain ⟨px, py⟩ := p
        unfold stV at cO
        dsimp only at e0 e1 e2 e3 e4 e5 e6 x0 x1 x2 x3 x4 x5 x6 hW2 hW3 cO kB kB3 h5 hcell hown
        have CO0 := Lib.hid cO
        obtain ⟨⟨z0, z1⟩, z2, z3⟩ := Box.pair kB3
        obtain ⟨y0, -, -, -, -, -, -⟩ := hcell W3 (Below.refl _ _)
        obtain ⟨v0, v1, v2, v3, v4, v5, v6⟩ := hown W3 (Below.refl _ _)
        clear cO kW2 bW2 kW3 bW3 kB kB3 hB hst hcnt hbad hgf hs hlt' hchk hfit hun hcell hown hWs2 hWs3 g3 g4
        rcases h5 with rfl | rfl | rfl | rfl | rfl
        · have co := CO0.out
          simp only [show (usesM 1).toNat = 1 from rfl] at co
          have CO := Lib.hid co
          clear co CO0
          have hco : costM ⟨px, py⟩ ⟨1, ⟨p0, p1⟩, ⟨q0, q1⟩, ⟨r0, r1⟩⟩ = 0 := rfl
          have hgo : goesM ⟨px, py⟩ ⟨1, ⟨p0, p1⟩, ⟨q0, q1⟩, ⟨r0, r1⟩⟩ = ⟨p0, p1⟩ := rfl
          have hX3 := HX.out
          rw [hco, hgo] at hX3
          have HX3 := Lib.hid hX3
          clear hX3 hco hgo HG3
          obtain ⟨U, hU, kU, -, bU⟩ := HK3.out.1.stored2 (.int .i64 p0) (.int .i64 p1)
          have HE := Lib.hid (And.intro kU (HB3.out.trans (bU w.heap.size hw1)))
          clear kU bU
          go_wp2_with first
            | (rw [hW2])
            | (go_at_call 23; (with_reducible refine Calls.mono CO.out ?_); rintro e w2 ⟨rfl, rfl⟩)
          try rw [hU]
          go_roundg (n - (i + 1))
          case measure => have := HGI.out; omega
          case rel => exact ⟨i + 1, acc, ⟨p0, p1⟩, by simp, by simp, by have := HGI.out; omega, HX3.out.1, HX3.out.2.1, by have := HX3.out.2.2; omega, by omega, HE.out.1, HE.out.2⟩
        · have co := CO0.out
          simp only [show (usesM 2).toNat = 1 from rfl] at co
          have CO := Lib.hid co
          clear co CO0
          have hco : costM ⟨px, py⟩ ⟨2, ⟨p0, p1⟩, ⟨q0, q1⟩, ⟨r0, r1⟩⟩ = 1 := rfl
          have hgo : goesM ⟨px, py⟩ ⟨2, ⟨p0, p1⟩, ⟨q0, q1⟩, ⟨r0, r1⟩⟩ = ⟨p0, p1⟩ := rfl
          have hX3 := HX.out
          rw [hco, hgo] at hX3
          have HX3 := Lib.hid hX3
          clear hX3 hco hgo HG3
          have hwa : IntKind.i64.wrap ((acc : Int) + 1) = (acc : Int) + 1 := IntWalk.i64_in _ (by omega)
          obtain ⟨U, hU, kU, -, bU⟩ := HK3.out.1.stored2 (.int .i64 p0) (.int .i64 p1)
          have HE := Lib.hid (And.intro kU (HB3.out.trans (bU w.heap.size hw1)))
          clear kU bU
          go_wp2_with first
            | (rw [hW2])
            | (go_at_call 23; (with_reducible refine Calls.mono CO.out ?_); rintro e w2 ⟨rfl, rfl⟩)
          try rw [hU]
          go_roundg (n - (i + 1))
          case measure => have := HGI.out; omega
          case rel => exact ⟨i + 1, acc + 1, ⟨p0, p1⟩, by simp, by simp, by have := HGI.out; omega, HX3.out.1, HX3.out.2.1, by have := HX3.out.2.2; omega, by omega, HE.out.1, HE.out.2⟩
        · have co := CO0.out
          simp only [show (usesM 3).toNat = 2 from rfl] at co
          have CO := Lib.hid co
          clear co CO0
          have hfl : FitL [⟨px, py⟩, ⟨p0, p1⟩, ⟨q0, q1⟩] := HG3.out.1 rfl
          have hpos := piecesM_pos hfl
          have hple := piecesM_le [⟨px, py⟩, ⟨p0, p1⟩, ⟨q0, q1⟩]
          have hpm : pointsM ⟨px, py⟩ ⟨3, ⟨p0, p1⟩, ⟨q0, q1⟩, ⟨r0, r1⟩⟩ = curveP [⟨px, py⟩, ⟨p0, p1⟩, ⟨q0, q1⟩] := rfl
          have hgo : goesM ⟨px, py⟩ ⟨3, ⟨p0, p1⟩, ⟨q0, q1⟩, ⟨r0, r1⟩⟩ = ⟨q0, q1⟩ := by
            unfold goesM
            rw [hpm, if_neg (fun h => by have h2 := congrArg List.length h; rw [curveP_length] at h2; simp at h2; omega), curve_end (by simp) hfl]
            rfl
          have hco : costM ⟨px, py⟩ ⟨3, ⟨p0, p1⟩, ⟨q0, q1⟩, ⟨r0, r1⟩⟩ = piecesM [⟨px, py⟩, ⟨p0, p1⟩, ⟨q0, q1⟩] := by
            unfold costM
            rw [hpm, curveP_length, if_neg (show ¬ (3 : Int) = 1 by decide)]
            omega
          have cP := fun (q : Option Addr) (k : Nat) (V : World) (h : RdV V V.heap.size q (ptRow [⟨px, py⟩, ⟨p0, p1⟩, ⟨q0, q1⟩])) => show Calls Try.prog 24 #[.slice q 3 k] V (fun e w' => e = .returned (.int .i64 (piecesM [⟨px, py⟩, ⟨p0, p1⟩, ⟨q0, q1⟩] : Int)) ∧ Below V.heap.size V w') from bez_Pieces [⟨px, py⟩, ⟨p0, p1⟩, ⟨q0, q1⟩] q k V h (by simp)
          obtain ⟨co, hcv⟩ : ∃ co, piecesM [⟨px, py⟩, ⟨p0, p1⟩, ⟨q0, q1⟩] = co := ⟨_, rfl⟩
          rw [hcv] at hco hpos hple
          simp only [hcv] at cP
          have CP := Lib.hid cP
          clear hfl hpm cP hcv
          have hX3 := HX.out
          rw [hco, hgo] at hX3
          have HX3 := Lib.hid hX3
          clear hX3 hco hgo HG3
          have hwa : IntKind.i64.wrap ((acc : Int) + (co : Int)) = (acc : Int) + (co : Int) := IntWalk.i64_in _ (by omega)
          obtain ⟨W4, hW4, kW4, bW4⟩ := endP W3 42 (.int .i64 px) (.int .i64 py)
          have HW4 := Lib.hid (And.intro (own_box kW4 (Nat.le_refl _)) (And.intro bW4 (HK3.out.2.below bW4 hw34)))
          have hn4 : ∀ j u, ([.int .i64 p0, .int .i64 p1, .int .i64 q0, .int .i64 q1] : List Value)[j]? = some u → W4.cell? ((⟨W2.heap.size, 1, none⟩ : Addr).add j) = some u := st_news HW4.out.2.2 (fun j u h => by
            rw [Nat.add_comm]
            match j, h with
            | 0, h => exact h
            | 1, h => exact h
            | 2, h => exact h
            | 3, h => exact h
            | j + 4, h => simp at h)
          have HN4 := Lib.hid hn4
          have hw44 : W3.heap.size < W4.heap.size := kW4.lt
          clear kW4 bW4 hn4
          go_wp2_with first
            | (rw [hW2])
            | (rw [hW4])
            | (go_at_call 23; (with_reducible refine Calls.mono CO.out ?_); rintro e w2 ⟨rfl, rfl⟩)
            | (at_builtin; refine wpList_append_own _ rfl _ _ 47 rfl W3.heap.size 42 i0 (.agg #[.int .i64 0, .int .i64 0]) 2 16 Try.underlying47 hi0 hz0 hz1 hz2 rfl (by decide) _ 1 [.int .i64 px, .int .i64 py] rfl HW4.out.1 ⟨W2.heap.size, 1, none⟩ 2 3 [.int .i64 p0, .int .i64 p1, .int .i64 q0, .int .i64 q1] rfl rfl HN4.out (by simp [Value.oneCell']) (by decide) (by decide) (by omega) ?_; intro v9 w9 hown9 hgrow9 _
               obtain ⟨q9, k9, hv9, -, -, hr9⟩ := RdV.ofOwnK hown9
               subst hv9
               have H9 := Lib.hid (And.intro (show RdV w9 w9.heap.size q9 (ptRow [⟨px, py⟩, ⟨p0, p1⟩, ⟨q0, q1⟩]) from hr9) (below_grow2 HW4.out.2.1 HW4.out.1 (Nat.le_of_lt hw44) hgrow9))
               clear hown9 hgrow9 hr9)
            | (go_at_call 24; (refine Calls.mono (CP.out q9 k9 w9 H9.out.1) ?_); rintro e w10 ⟨rfl, b10⟩
               have HB10 := Lib.hid (H9.out.2.trans (b10.mono H9.out.2.size))
               clear b10
               have k10 := HK3.out.1.below HB10.out (by omega)
               obtain ⟨⟨z0, z1⟩, z2, z3⟩ := Box.pair k10
               obtain ⟨-, -, -, m3, m4, -, -⟩ := HOC.out _ HB10.out
               try dsimp only at m3 m4
               obtain ⟨U, hU, kU, -, bU⟩ := k10.stored2 (.int .i64 q0) (.int .i64 q1)
               have HE := Lib.hid (And.intro kU (HB3.out.trans ((HB10.out.mono (by omega)).trans (bU w.heap.size hw1))))
               clear kU bU k10)
          try rw [hU]
          go_roundg (n - (i + 1))
          case measure => have := HGI.out; omega
          case rel => exact ⟨i + 1, acc + co, ⟨q0, q1⟩, by simp, by simp, by have := HGI.out; omega, HX3.out.1, HX3.out.2.1, by have := HX3.out.2.2; omega, by omega, HE.out.1, HE.out.2⟩
        · have co := CO0.out
          simp only [show (usesM 4).toNat = 3 from rfl] at co
          have CO := Lib.hid co
          clear co CO0
          have hfl : FitL [⟨px, py⟩, ⟨p0, p1⟩, ⟨q0, q1⟩, ⟨r0, r1⟩] := HG3.out.2 rfl
          have hpos := piecesM_pos hfl
          have hple := piecesM_le [⟨px, py⟩, ⟨p0, p1⟩, ⟨q0, q1⟩, ⟨r0, r1⟩]
          have hpm : pointsM ⟨px, py⟩ ⟨4, ⟨p0, p1⟩, ⟨q0, q1⟩, ⟨r0, r1⟩⟩ = curveP [⟨px, py⟩, ⟨p0, p1⟩, ⟨q0, q1⟩, ⟨r0, r1⟩] := rfl
          have hgo : goesM ⟨px, py⟩ ⟨4, ⟨p0, p1⟩, ⟨q0, q1⟩, ⟨r0, r1⟩⟩ = ⟨r0, r1⟩ := by
            unfold goesM
            rw [hpm, if_neg (fun h => by have h2 := congrArg List.length h; rw [curveP_length] at h2; simp at h2; omega), curve_end (by simp) hfl]
            rfl
          have hco : costM ⟨px, py⟩ ⟨4, ⟨p0, p1⟩, ⟨q0, q1⟩, ⟨r0, r1⟩⟩ = piecesM [⟨px, py⟩, ⟨p0, p1⟩, ⟨q0, q1⟩, ⟨r0, r1⟩] := by
            unfold costM
            rw [hpm, curveP_length, if_neg (show ¬ (4 : Int) = 1 by decide)]
            omega
          have cP := fun (q : Option Addr) (k : Nat) (V : World) (h : RdV V V.heap.size q (ptRow [⟨px, py⟩, ⟨p0, p1⟩, ⟨q0, q1⟩, ⟨r0, r1⟩])) => show Calls Try.prog 24 #[.slice q 4 k] V (fun e w' => e = .returned (.int .i64 (piecesM [⟨px, py⟩, ⟨p0, p1⟩, ⟨q0, q1⟩, ⟨r0, r1⟩] : Int)) ∧ Below V.heap.size V w') from bez_Pieces [⟨px, py⟩, ⟨p0, p1⟩, ⟨q0, q1⟩, ⟨r0, r1⟩] q k V h (by simp)
          obtain ⟨co, hcv⟩ : ∃ co, piecesM [⟨px, py⟩, ⟨p0, p1⟩, ⟨q0, q1⟩, ⟨r0, r1⟩] = co := ⟨_, rfl⟩
          rw [hcv] at hco hpos hple
          simp only [hcv] at cP
          have CP := Lib.hid cP
          clear hfl hpm cP hcv
          have hX3 := HX.out
          rw [hco, hgo] at hX3
          have HX3 := Lib.hid hX3
          clear hX3 hco hgo HG3
          have hwa : IntKind.i64.wrap ((acc : Int) + (co : Int)) = (acc : Int) + (co : Int) := IntWalk.i64_in _ (by omega)
          obtain ⟨W4, hW4, kW4, bW4⟩ := endP W3 42 (.int .i64 px) (.int .i64 py)
          have HW4 := Lib.hid (And.intro (own_box kW4 (Nat.le_refl _)) (And.intro bW4 (HK3.out.2.below bW4 hw34)))
          have hn4 : ∀ j u, ([.int .i64 p0, .int .i64 p1, .int .i64 q0, .int .i64 q1, .int .i64 r0, .int .i64 r1] : List Value)[j]? = some u → W4.cell? ((⟨W2.heap.size, 1, none⟩ : Addr).add j) = some u := st_news HW4.out.2.2 (fun j u h => by
            rw [Nat.add_comm]
            match j, h with
            | 0, h => exact h
            | 1, h => exact h
            | 2, h => exact h
            | 3, h => exact h
            | 4, h => exact h
            | 5, h => exact h
            | j + 6, h => simp at h)
          have HN4 := Lib.hid hn4
          have hw44 : W3.heap.size < W4.heap.size := kW4.lt
          clear kW4 bW4 hn4
          go_wp2_with first
            | (rw [hW2])
            | (rw [hW4])
            | (go_at_call 23; (with_reducible refine Calls.mono CO.out ?_); rintro e w2 ⟨rfl, rfl⟩)
            | (at_builtin; refine wpList_append_own _ rfl _ _ 47 rfl W3.heap.size 42 i0 (.agg #[.int .i64 0, .int .i64 0]) 2 16 Try.underlying47 hi0 hz0 hz1 hz2 rfl (by decide) _ 1 [.int .i64 px, .int .i64 py] rfl HW4.out.1 ⟨W2.heap.size, 1, none⟩ 3 3 [.int .i64 p0, .int .i64 p1, .int .i64 q0, .int .i64 q1, .int .i64 r0, .int .i64 r1] rfl rfl HN4.out (by simp [Value.oneCell']) (by decide) (by decide) (by omega) ?_; intro v9 w9 hown9 hgrow9 _
               obtain ⟨q9, k9, hv9, -, -, hr9⟩ := RdV.ofOwnK hown9
               subst hv9
               have H9 := Lib.hid (And.intro (show RdV w9 w9.heap.size q9 (ptRow [⟨px, py⟩, ⟨p0, p1⟩, ⟨q0, q1⟩, ⟨r0, r1⟩]) from hr9) (below_grow2 HW4.out.2.1 HW4.out.1 (Nat.le_of_lt hw44) hgrow9))
               clear hown9 hgrow9 hr9)
            | (go_at_call 24; (refine Calls.mono (CP.out q9 k9 w9 H9.out.1) ?_); rintro e w10 ⟨rfl, b10⟩
               have HB10 := Lib.hid (H9.out.2.trans (b10.mono H9.out.2.size))
               clear b10
               have k10 := HK3.out.1.below HB10.out (by omega)
               obtain ⟨⟨z0, z1⟩, z2, z3⟩ := Box.pair k10
               obtain ⟨-, -, -, -, -, m3, m4⟩ := HOC.out _ HB10.out
               try dsimp only at m3 m4
               obtain ⟨U, hU, kU, -, bU⟩ := k10.stored2 (.int .i64 r0) (.int .i64 r1)
               have HE := Lib.hid (And.intro kU (HB3.out.trans ((HB10.out.mono (by omega)).trans (bU w.heap.size hw1))))
               clear kU bU k10)
          try rw [hU]
          go_roundg (n - (i + 1))
          case measure => have := HGI.out; omega
          case rel => exact ⟨i + 1, acc + co, ⟨r0, r1⟩, by simp, by simp, by have := HGI.out; omega, HX3.out.1, HX3.out.2.1, by have := HX3.out.2.2; omega, by omega, HE.out.1, HE.out.2⟩
        · have co := CO0.out
          simp only [show (usesM 5).toNat = 0 from rfl] at co
          have CO := Lib.hid co
          clear co CO0
          have hco : costM ⟨px, py⟩ ⟨5, ⟨p0, p1⟩, ⟨q0, q1⟩, ⟨r0, r1⟩⟩ = 1 := rfl
          have hgo : goesM ⟨px, py⟩ ⟨5, ⟨p0, p1⟩, ⟨q0, q1⟩, ⟨r0, r1⟩⟩ = ⟨px, py⟩ := rfl
          have hX3 := HX.out
          rw [hco, hgo] at hX3
          have HX3 := Lib.hid hX3
          clear hX3 hco hgo HG3
          have hwa : IntKind.i64.wrap ((acc : Int) + 1) = (acc : Int) + 1 := IntWalk.i64_in _ (by omega)
          go_wp2_with first
            | (rw [hW2])
            | (go_at_call 23; (with_reducible refine Calls.mono CO.out ?_); rintro e w2 ⟨rfl, rfl⟩)
          go_roundg (n - (i + 1))
          case measure => have := HGI.out; omega
          case rel => exact ⟨i + 1, acc + 1, ⟨px, py⟩, by simp, by simp, by have := HGI.out; omega, HX3.out.1, HX3.out.2.1, by have := HX3.out.2.2; omega, by omega, HK3.out.1, HB3.out⟩
      · obtain rfl : i = n := by omega
        have hend : acc = T := by rw [← hcnt, ← HN.out, List.drop_length]; rfl
        have HB := Lib.hid (And.intro hend hB)
        have hil : ¬ (i : Int) < (i : Int) := by omega
        clear hend hB hcnt hchk kB
        go_wp2_with fail
        go_ret2
        exact ⟨by rw [HB.out.1]; rfl, HB.out.2⟩
  · have hT0 : T = 0 := by rw [← hT]; unfold countM; rw [if_neg (by rw [hE]; exact hz)]
    subst hT0
    have hzb : (E == 0) = false := by simpa using hz
    clear cC hn hL hE hT
    go_enter Try.func8, Try.ntmps8
    go_wp2_with (go_at_call 17; (with_reducible refine Calls.mono CC.out ?_); rintro e w1 ⟨rfl, b1⟩)
    go_ret2
    exact ⟨rfl, b1⟩
end Go.Proofs.Ytbgjpmijegeeiaa
/- Paths, the program's own: Segs. -/

namespace Go.Proofs.Ytbgjpmijegeeiaa
open Go.RowKit

theorem box_apart {w : World} {g base k n : Nat} {t e : TypeId} {vs xs : List Value} {v : Value} (h : Box w g t vs) (ho : w.ownsRow base e k v n xs) (hne : t ≠ e) : v.ownBlock ≠ some g := by
  rcases ho.2 with ⟨rfl, _⟩ | ⟨b, cap, cur, rfl, _, hg, _⟩
  · simp [Value.ownBlock]
  · intro e1
    simp only [Value.ownBlock, Option.some.injEq] at e1
    subst e1
    unfold Box at h
    rw [h] at hg
    simp only [Option.some.injEq, Obj.cells.injEq] at hg
    exact hne hg.2.1
theorem Box.grown {w w' : World} {g : Nat} {t : TypeId} {vs : List Value} {row : Option Nat} (h : Box w g t vs) (hg : w.grownBy w' row) (hne : row ≠ some g) : Box w' g t vs := (hg.block g h.lt (fun e => hne e.symm)).trans h
theorem rem_next {k m : Nat} (h : k < m) : ((k : Int) + 1).tmod (m : Int) = if k + 1 < m then (k : Int) + 1 else 0 := by
  split
  · exact Int.tmod_eq_of_lt (by omega) (by omega)
  · rw [show (k : Int) + 1 = (m : Int) by omega]
    exact Int.tmod_self

set_option maxRecDepth 10000 in
set_option maxHeartbeats 12800000 in
theorem path_Segs (V : List Lv) (A : Option Addr) (c : Nat) (w : World) (hV : RdLn w w.heap.size A V) (hl : V.length ≤ 1073741824) (hs : sumP V ≤ 1073741824) :
    Calls Try.prog 15 #[.slice A V.length c] w fun e w' => (∃ q k, e = .returned (.slice q (segsM (Lv.all V)).length k) ∧ RdV w' w'.heap.size q (sgRow (segsM (Lv.all V)))) ∧ Below w.heap.size w w' := by
  obtain ⟨n, hn⟩ : ∃ n, V.length = n := ⟨_, rfl⟩
  have HN := Lib.hid hn
  have HV := Lib.hid hV
  obtain ⟨i0, hi0, hz0, hz1, hz2⟩ := info_parts info_sg
  rw [← segsI_all, hn]
  rw [hn] at hl
  clear hn hV
  go_enter Try.func15, Try.ntmps15
  go_wp2_with fail
  go_loopg [3, 11] n (fun gh ov it wr => ∃ i : Nat, it = .int .i64 (i : Int) ∧ gh + i = n ∧ wr.ownsRow w.heap.size 44 4 ov (segsI V i).length (sgRow (segsI V i)) ∧ Below w.heap.size w wr)
  case atStart => exact ⟨0, rfl, by omega, World.ownsRow_nil _ _ _ _, Below.refl _ _⟩
  case round =>
    obtain ⟨i, rfl, hg, hown, hB⟩ := hrel
    obtain ⟨wo, rfl⟩ : ∃ X, X = wr := ⟨_, rfl⟩
    have HG := Lib.hid hg
    by_cases hlt : i < n
    · have hlt' : i < V.length := by rw [HN.out]; exact hlt
      obtain ⟨g, o, rfl, hgl, e0, e1, hpr⟩ := (HV.out.below hB).row (i := i) hlt'
      have hil : (i : Int) < (n : Int) := by omega
      have hst := segsI_step hlt'
      have hle := segsI_le (V := V) (i := i) (by omega)
      have hsu := sumP_take hlt'
      have hrow := fun U (h : Below w.heap.size w U) => ((HV.out.below h).row (i := i) hlt')
      obtain ⟨x, hx⟩ : ∃ x, V[i] = x := ⟨_, rfl⟩
      rw [hx] at e0 e1 hpr hst hsu
      simp only [hx] at hrow
      obtain ⟨XA, XC, P, cl⟩ := x
      dsimp only at e0 e1 hpr hst hsu hrow
      have HPR := Lib.hid (fun U (h : Below w.heap.size w U) => show RdV U w.heap.size XA (ptRow P) from by obtain ⟨_, _, _, _, _, _, h2⟩ := hrow U h; exact h2)
      obtain ⟨m, hm⟩ : ∃ m, P.length = m := ⟨_, rfl⟩
      rw [hm] at e0 hsu
      have HM := Lib.hid hm
      have HST := Lib.hid hst
      obtain ⟨W, hW, kW, bW⟩ := endP wo 57 (.slice XA m XC) (.bool cl)
      obtain ⟨⟨x0, x1⟩, -⟩ := Box.pair kW
      have HO := Lib.hid (And.intro (own_below hown bW) (And.intro (hB.trans (bW.mono hB.size)) kW))
      have hS0 : (segsI V i).length + m ≤ 1073741824 := by omega
      have hgw : w.heap.size ≤ wo.heap.size := hB.size
      generalize segsI V i = S at hS0 HST HO
      clear hm hst hown hB hle hsu hx hlt' hpr hrow kW bW
      go_wp2_with (rw [hW])
      try rw [hW]
      go_loopg [3, 18] m (fun gh ov it wq => ∃ k : Nat, it = .int .i64 (k : Int) ∧ gh + k = m ∧ wq.ownsRow w.heap.size 44 4 ov (S ++ segTo P k).length (sgRow (S ++ segTo P k)) ∧ Below w.heap.size w wq ∧ Box wq wo.heap.size 57 [.slice XA m XC, .bool cl])
      case atStart => exact ⟨0, rfl, by omega, by simpa [segTo] using HO.out.1, HO.out.2.1, HO.out.2.2⟩
      case round =>
        obtain ⟨k, rfl, hgk, hownk, hBk, kLq⟩ := hrel
        have HGK := Lib.hid hgk
        by_cases hk : k < m
        · have hle := segTo_le P k
          have hlen : (S ++ segTo P k).length + 1 ≤ 1073741824 := by rw [List.length_append]; omega
          have hkl : (k : Int) < (m : Int) := by omega
          have m5 : 0 < m := by omega
          obtain ⟨gP, oP, rfl, hgP, d0, d1⟩ := (HPR.out wr hBk).pt (i := k) (by rw [HM.out]; exact hk)
          rw [← getD_get (by rw [HM.out]; exact hk)] at d0 d1
          obtain ⟨j, hj⟩ : ∃ j, (if k + 1 < m then k + 1 else 0) = j := ⟨_, rfl⟩
          have hjm : j < m := by rw [← hj]; split <;> omega
          obtain ⟨g', o', e', -, f0, f1⟩ := (HPR.out wr hBk).pt (i := j) (by rw [HM.out]; exact hjm)
          cases e'
          rw [← getD_get (by rw [HM.out]; exact hjm)] at f0 f1
          have hnx : nextP P k = P.getD j pt0 := by
            unfold nextP
            rw [HM.out, ← hj]
            split <;> rfl
          have hgPw : gP < wr.heap.size := Nat.lt_of_lt_of_le hgP hBk.size
          have hold := segTo_old (l := P) (k := k)
          have hnew := segTo_new (l := P) (k := k)
          rw [hnx] at hold hnew
          obtain ⟨a, ha⟩ : ∃ a, P.getD k pt0 = a := ⟨_, rfl⟩
          rw [ha] at d0 d1 hold hnew
          obtain ⟨ax, ay⟩ := a
          obtain ⟨b, hb⟩ : ∃ b, P.getD j pt0 = b := ⟨_, rfl⟩
          rw [hb] at f0 f1 hold hnew
          obtain ⟨bx, bY⟩ := b
          dsimp only at d0 d1 f0 f1
          obtain ⟨V1, hV1, k1, b1⟩ := endP wr 42 (.int .i64 ax) (.int .i64 ay)
          obtain ⟨V2, hV2, k2, b2⟩ := endP V1 42 (.int .i64 bx) (.int .i64 bY)
          obtain ⟨V0, hV0, k0, b0⟩ := endP V1 42 (.int .i64 0) (.int .i64 0)
          obtain ⟨U, hU, kU, -, bU⟩ := k0.stored2 (.int .i64 bx) (.int .i64 bY)
          obtain ⟨⟨u0, u1⟩, u2, u3⟩ := Box.pair k0
          have hs1 : wr.heap.size < V1.heap.size := k1.lt
          have kL1 := kLq.below b1 kLq.lt
          obtain ⟨⟨c0, c1⟩, -⟩ := Box.pair kL1
          have f0' := (b1.cell (p := ⟨gP, oP + j * 2, none⟩) hgPw).trans f0
          have f1' := (b1.cell (p := ⟨gP, oP + j * 2 + 1, none⟩) hgPw).trans f1
          have kL0 := (kL1.below b0 kL1.lt)
          obtain ⟨⟨c0', -⟩, -⟩ := Box.pair kL0
          have f0'' := (b0.cell (p := ⟨gP, oP + j * 2, none⟩) (Nat.lt_trans hgPw hs1)).trans f0'
          have f1'' := (b0.cell (p := ⟨gP, oP + j * 2 + 1, none⟩) (Nat.lt_trans hgPw hs1)).trans f1'
          have m1 : IntKind.i64.wrap ((k : Int) + 1) = (k : Int) + 1 := IntWalk.i64_in _ (by omega)
          have m2 : ((k : Int) + 1).tmod (m : Int) = (j : Int) := by
            rw [rem_next hk, ← hj]
            split <;> simp
          have m3 : (j : Int) < (m : Int) := by omega
          have m4 : ¬ (m : Int) = 0 := by omega
          have m6 : ((m : Int) == 0) = false := by simpa using m4
          have HXX := Lib.hid (And.intro (own_below hownk b1) (And.intro (hBk.trans (b1.mono hBk.size)) (And.intro kL1 k1)))
          have HBX := Lib.hid (And.intro (And.intro k2 b2) (And.intro kU (b0.trans (bU V1.heap.size (Nat.le_refl _)))))
          have HGo := Lib.hid hold
          have HGn := Lib.hid hnew
          clear hold hnew k1 k2 k0 kU b1 b2 b0 bU hownk hBk hb ha hnx hle kLq kL1 kL0 hj
          go_wp2_with (rw [hV1])
          try rw [hV1]
          go_cut [8] from 23 to 42 (fun v8 wc => ∃ B, v8 = .pointer (some ⟨B, 0, none⟩) ∧ Box wc B 42 [.int .i64 bx, .int .i64 bY] ∧ Below V1.heap.size V1 wc)
          case first =>
            go_region
            all_goals
              have hfin := Lib.hid HBX.out.2.2.drew
              have hku := Lib.hid (show Box U.drew V1.heap.size 42 [.int .i64 bx, .int .i64 bY] from HBX.out.2.1)
              go_wp2_with fail
              go_meet
              exact ⟨_, rfl, hku.out, hfin.out⟩
          case rest =>
            obtain ⟨B, rfl, kb, bc⟩ := hcut
            have HW := Lib.hid (And.intro (own_below HXX.out.1 bc) (And.intro (HXX.out.2.1.trans (bc.mono HXX.out.2.1.size)) (HXX.out.2.2.1.below bc HXX.out.2.2.1.lt)))
            have kA := HXX.out.2.2.2.below bc HXX.out.2.2.2.lt
            obtain ⟨⟨y0, y1⟩, -⟩ := Box.pair kA
            obtain ⟨⟨y2, y3⟩, -⟩ := Box.pair kb
            clear kA kb bc u0 u1 u2 u3 c0 c1 c0' f0' f1' f0'' f1'' hU hV0 hV2 d0 d1 f0 f1 m1 m2
            by_cases hx : ax = bx
            · subst hx
              by_cases hy : ay = bY
              · subst hy
                have HOL := Lib.hid (HGo.out rfl)
                go_wp2_with fail
                go_roundg (m - (k + 1))
                case measure => have := HGK.out; omega
                case rel => exact ⟨k + 1, by simp, by omega, by rw [HOL.out]; exact HW.out.1, HW.out.2.1, HW.out.2.2⟩
              · have hyb : (ay == bY) = false := by simpa using hy
                have HNW := Lib.hid (HGn.out (fun h => hy (congrArg Pt.y h)))
                go_wp2_with (at_builtin; refine wpList_append_own _ rfl _ _ 38 rfl w.heap.size 44 i0 (.agg #[.int .i64 0, .int .i64 0, .int .i64 0, .int .i64 0]) 4 32 Try.underlying38 hi0 hz0 hz1 hz2 rfl (by decide) _ (S ++ segTo P k).length _ rfl (HW.out.1.alloc _) ⟨wc.heap.size, 0, none⟩ 1 1 [.int .i64 ax, .int .i64 ay, .int .i64 ax, .int .i64 bY] rfl rfl (four_new _ _ _ _ _ _) (by simp [Value.oneCell']) (by unfold maxLen; omega) (by omega) (by have h1 := HW.out.2.1.size; simp; omega) ?_; intro v' w3 hown' hgrow _; replace hown' := Lib.hid hown'; replace hgrow := Lib.hid hgrow)
                have hBs := below_grow2 (HW.out.2.1.alloc HW.out.2.1.size (.cells #[.int .i64 ax, .int .i64 ay, .int .i64 ax, .int .i64 bY] 44)) (HW.out.1.alloc _) (by have h1 := HW.out.2.1.size; simp; omega) hgrow.out
                have hkL := (HW.out.2.2.alloc (.cells #[.int .i64 ax, .int .i64 ay, .int .i64 ax, .int .i64 bY] 44)).grown hgrow.out (box_apart HW.out.2.2 HW.out.1 (by decide))
                have hstep : w3.ownsRow w.heap.size 44 4 v' (S ++ segTo P (k + 1)).length (sgRow (S ++ segTo P (k + 1))) := by
                  rw [HNW.out, ← List.append_assoc, sgRow_append, List.length_append]
                  exact hown'.out
                go_roundg (m - (k + 1))
                case measure => have := HGK.out; omega
                case rel => exact ⟨k + 1, by simp, by omega, hstep, hBs, hkL⟩
            · have hxb : (ax == bx) = false := by simpa using hx
              have HNW := Lib.hid (HGn.out (fun h => hx (congrArg Pt.x h)))
              go_wp2_with (at_builtin; refine wpList_append_own _ rfl _ _ 38 rfl w.heap.size 44 i0 (.agg #[.int .i64 0, .int .i64 0, .int .i64 0, .int .i64 0]) 4 32 Try.underlying38 hi0 hz0 hz1 hz2 rfl (by decide) _ (S ++ segTo P k).length _ rfl (HW.out.1.alloc _) ⟨wc.heap.size, 0, none⟩ 1 1 [.int .i64 ax, .int .i64 ay, .int .i64 bx, .int .i64 bY] rfl rfl (four_new _ _ _ _ _ _) (by simp [Value.oneCell']) (by unfold maxLen; omega) (by omega) (by have h1 := HW.out.2.1.size; simp; omega) ?_; intro v' w3 hown' hgrow _; replace hown' := Lib.hid hown'; replace hgrow := Lib.hid hgrow)
              have hBs := below_grow2 (HW.out.2.1.alloc HW.out.2.1.size (.cells #[.int .i64 ax, .int .i64 ay, .int .i64 bx, .int .i64 bY] 44)) (HW.out.1.alloc _) (by have h1 := HW.out.2.1.size; simp; omega) hgrow.out
              have hkL := (HW.out.2.2.alloc (.cells #[.int .i64 ax, .int .i64 ay, .int .i64 bx, .int .i64 bY] 44)).grown hgrow.out (box_apart HW.out.2.2 HW.out.1 (by decide))
              have hstep : w3.ownsRow w.heap.size 44 4 v' (S ++ segTo P (k + 1)).length (sgRow (S ++ segTo P (k + 1))) := by
                rw [HNW.out, ← List.append_assoc, sgRow_append, List.length_append]
                exact hown'.out
              go_roundg (m - (k + 1))
              case measure => have := HGK.out; omega
              case rel => exact ⟨k + 1, by simp, by omega, hstep, hBs, hkL⟩
        · obtain rfl : k = m := by omega
          have hq : S ++ segTo P k = segsI V (i + 1) := by rw [HST.out]; unfold segsOf; rw [HM.out]
          rw [hq] at hownk
          have HE := Lib.hid (And.intro hownk hBk)
          clear hownk hBk hq
          go_wp2_with fail
          go_roundg (n - (i + 1))
          case measure => have := HG.out; omega
          case rel => exact ⟨i + 1, by simp, by omega, HE.out.1, HE.out.2⟩
    · obtain rfl : i = n := by omega
      obtain ⟨p, k, rfl, hk, -, hr⟩ := RdV.ofOwnK hown
      have HE := Lib.hid (And.intro hr hB)
      clear hown hr hB
      go_wp2_with fail
      go_ret
      exact ⟨⟨p, k, rfl, HE.out.1⟩, HE.out.2⟩
end Go.Proofs.Ytbgjpmijegeeiaa
/- Paths: the triangle that each statement traces besides. -/

namespace Go.Proofs.Ytbgjpmijegeeiaa
open Go.RowKit

def tri : List St := [⟨1, ⟨0, 0⟩, ⟨0, 0⟩, ⟨0, 0⟩⟩, ⟨2, ⟨5, 0⟩, ⟨0, 0⟩, ⟨0, 0⟩⟩, ⟨2, ⟨5, 5⟩, ⟨0, 0⟩, ⟨0, 0⟩⟩, ⟨5, ⟨0, 0⟩, ⟨0, 0⟩, ⟨0, 0⟩⟩]
theorem tri_check : checkM tri = 0 := by decide
theorem tri_trace : traceM tri = [⟨[⟨0, 0⟩, ⟨5, 0⟩, ⟨5, 5⟩], true⟩] := by
  unfold traceM
  rw [if_pos tri_check]
  rfl
theorem tri_segs : (segsM [⟨[⟨0, 0⟩, ⟨5, 0⟩, ⟨5, 5⟩], true⟩]).length = 3 := by decide

set_option maxRecDepth 10000 in
set_option maxHeartbeats 1600000 in
theorem law12_lives (w : World) : Calls Try.prog 13 #[] w fun e w' => e = .returned (.bool true) ∧ Below w.heap.size w w' := by
  obtain ⟨W, hW, kW, bW⟩ : ∃ W, w.alloc (.cells #[.int .i64 1, .int .i64 0, .int .i64 0, .int .i64 0, .int .i64 0, .int .i64 0, .int .i64 0, .int .i64 2, .int .i64 5, .int .i64 0, .int .i64 0, .int .i64 0, .int .i64 0, .int .i64 0, .int .i64 2, .int .i64 5, .int .i64 5, .int .i64 0, .int .i64 0, .int .i64 0, .int .i64 0, .int .i64 5, .int .i64 0, .int .i64 0, .int .i64 0, .int .i64 0, .int .i64 0, .int .i64 0] 52) = W ∧ Box W w.heap.size 52 (stRow tri) ∧ Below w.heap.size w W := ⟨_, rfl, Box.new w _ (stRow tri), (Below.refl _ w).alloc (Nat.le_refl _) _⟩
  have cT := path_Trace tri (some ⟨w.heap.size, 0, none⟩) 4 W kW.rd (by decide)
  unfold GivesLn at cT
  rw [tri_check, tri_trace] at cT
  have hlen : tri.length = 4 := rfl
  rw [hlen] at cT
  dsimp only [List.length_cons, List.length_nil, Nat.zero_add] at cT
  have cS := fun (X : World) (q : Option Addr) (k : Nat) (x : Lv) (hx : x.ln = ⟨[⟨0, 0⟩, ⟨5, 0⟩, ⟨5, 5⟩], true⟩) (h : RdLn X X.heap.size q [x]) => show Calls Try.prog 15 #[.slice q 1 k] X (fun e w' => (∃ q k, e = .returned (.slice q 3 k)) ∧ Below X.heap.size X w') from by
    have hp : x.pts = [⟨0, 0⟩, ⟨5, 0⟩, ⟨5, 5⟩] := congrArg Ln.pts hx
    refine (path_Segs [x] q k X h (by simp) (by simp [sumP, hp])).mono ?_
    rintro e w' ⟨⟨q2, k2, rfl, -⟩, b⟩
    have e3 : (segsM (Lv.all [x])).length = 3 := by
      rw [show Lv.all [x] = [x.ln] from rfl, hx]
      exact tri_segs
    rw [e3]
    exact ⟨⟨_, _, rfl⟩, b⟩
  have CT := Lib.hid cT
  have CS := Lib.hid cS
  have HB := Lib.hid bW
  clear cT cS kW bW hlen
  go_enter Try.func13, Try.ntmps13
  go_wp2_with first
    | (rw [hW])
    | (go_at_call 6; (with_reducible refine Calls.mono CT.out ?_); rintro e w1 ⟨⟨q, k, V, rfl, hV, hr⟩, b1⟩
       obtain ⟨x, rfl, hx⟩ : ∃ x, V = [x] ∧ x.ln = ⟨[⟨0, 0⟩, ⟨5, 0⟩, ⟨5, 5⟩], true⟩ := by
         have h : V.map Lv.ln = [⟨[⟨0, 0⟩, ⟨5, 0⟩, ⟨5, 5⟩], true⟩] := hV
         cases V with
         | nil => simp at h
         | cons x r =>
           cases r with
           | nil => exact ⟨x, rfl, by simpa using h⟩
           | cons y r => simp at h
       have hp : x.pts.length = 3 := by rw [show x.pts = [⟨0, 0⟩, ⟨5, 0⟩, ⟨5, 5⟩] from congrArg Ln.pts hx]; rfl
       have hc : x.closed = true := congrArg Ln.closed hx
       obtain ⟨g, o, rfl, -, c0, c1, -⟩ := hr.row (i := 0) (by simp)
       simp only [List.getElem_cons_zero, Nat.zero_mul, Nat.add_zero, hp, hc] at c0 c1
       have H1 := Lib.hid (And.intro hx (And.intro hr (HB.out.trans (b1.mono HB.out.size))))
       clear hV hr b1 hx hp hc)
    | (go_at_call 15; (with_reducible refine Calls.mono (CS.out _ _ _ x H1.out.1 H1.out.2.1) ?_); rintro e w2 ⟨⟨q2, k2, rfl⟩, b2⟩)
  go_ret
  exact ⟨rfl, H1.out.2.2.trans (b2.mono H1.out.2.2.size)⟩
end Go.Proofs.Ytbgjpmijegeeiaa
