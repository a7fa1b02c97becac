/- Lines in pieces, the document's own: piece. -/
import Derived.Test.YtkebffkekinblaaZDsX
import Derived.Test.YtkebffkekinblaaZOaJ
namespace Go.Proofs.Ytkebffkekinblaa
open Go.RowKit

/-- the first row of a piece: a point in a block of its own -/
theorem own_first (w : World) (x y : Value) : (w.alloc (.cells #[x, y] 36)).ownsRow w.heap.size 36 2 (.slice (some ⟨w.heap.size, 0, none⟩) 1 1) 1 [x, y] :=
  ⟨rfl, .inr ⟨w.heap.size, 1, #[x, y], rfl, Nat.le_refl _, heap_alloc_new w _, Nat.le_refl _, by simp [maxLen], rfl, rfl⟩⟩
theorem mids_next (p : List Pt) (a b : Int) (i : Nat) : midsTo p a b (i + 1) = if a < chainTo p i ∧ chainTo p i < b then midsTo p a b i ++ [p.getD i pt0] else midsTo p a b i := rfl
theorem once_next (l : List Pt) (i : Nat) : onceTo l (i + 1) = if i = 0 ∨ l.getD i pt0 ≠ l.getD (i - 1) pt0 then onceTo l i ++ [l.getD i pt0] else onceTo l i := rfl
/-- what piece answers -/
def Pieced (L : List Pt) (c : Bool) (a b : Int) (w : World) (e : Ending) (w' : World) : Prop :=
  (∃ v, e = .returned v ∧ w'.ownsRow w.heap.size 36 2 v (pieceP L c a b).length (ptRow (pieceP L c a b))) ∧ Below w.heap.size w w'
theorem rawP_eq (L : List Pt) (c : Bool) (a b : Int) : rawP L c a b = [AtV L c a] ++ midsTo (ringP L c) a b ((ringP L c).length - 1) ++ [AtV L c b] := rfl

set_option maxRecDepth 10000 in
set_option maxHeartbeats 6400000 in
theorem ref15_piece (L : List Pt) (A : Option Addr) (c : Nat) (cl : Bool) (a b : Int) (ha : -9223372036854775808 ≤ a ∧ a ≤ 9223372036854775807) (hb : -9223372036854775808 ≤ b ∧ b ≤ 9223372036854775807) (w : World) (hL : RdV w w.heap.size A (ptRow L)) (hl : L.length ≤ 1048577) :
    Calls Try.prog 26 #[.agg #[.slice A L.length c, .bool cl], .int .i64 a, .int .i64 b] w (Pieced L cl a b w) := by
  obtain ⟨W, hW, kW, bW⟩ := line_box w (.slice A L.length c) (.bool cl)
  have HL := Lib.hid (hL.on bW)
  have c1 := fun V (h : Below W.heap.size W V) => ref15_round L A c cl V (HL.out.on h) (by omega)
  have c2 := fun V (h : Below W.heap.size W V) => ref15_At L A c cl a ha V (HL.out.on h) hl
  have c3 := fun V (h : Below W.heap.size W V) => ref15_At L A c cl b hb V (HL.out.on h) hl
  have hrl := ringP_le L cl
  have HRAW := Lib.hid (rawP_eq L cl a b)
  have HPC := Lib.hid (show pieceP L cl a b = onceTo (rawP L cl a b) (rawP L cl a b).length from rfl)
  unfold Ringed at c1
  generalize AtV L cl a = pa at c2 HRAW
  generalize AtV L cl b = pb at c3 HRAW
  generalize decide (AtOk L cl a) = ka at c2
  generalize decide (AtOk L cl b) = kb at c3
  generalize ringP L cl = p at c1 hrl HRAW
  unfold Pieced
  generalize rawP L cl a b = raw at HRAW HPC
  generalize pieceP L cl a b = res at HPC ⊢
  obtain ⟨m, hm⟩ : ∃ m, p.length = m := ⟨_, rfl⟩
  have HM := Lib.hid hm
  rw [hm] at c1 hrl HRAW
  obtain ⟨nl, hnl⟩ : ∃ nl, L.length = nl := ⟨_, rfl⟩
  rw [hnl] at c1 c2 c3 hrl hl kW hW ⊢
  obtain ⟨⟨p0, p1⟩, -⟩ := Box.pair kW
  have HK := Lib.hid (And.intro kW bW)
  obtain ⟨xa, ya⟩ := pa
  obtain ⟨xb, yb⟩ := pb
  unfold ptV at c2 c3
  dsimp only at c2 c3
  have C1 := Lib.hid c1
  have C2 := Lib.hid c2
  have C3 := Lib.hid c3
  obtain ⟨i0, hi0, hz0, hz1, hz2⟩ := info_parts info_pt
  have hmb : m ≤ 1048578 := by omega
  clear c1 c2 c3 hL hm hnl kW bW hrl ha hb
  go_enter Try.func26, Try.ntmps26
  go_wp2_with first
    | (rw [hW])
    | (go_at_call 29; (with_reducible refine Calls.mono (C1.out _ (Below.refl _ _)) ?_); rintro e w1 ⟨⟨q, k, rfl, -, hq, -⟩, b1⟩
       have G1 := Lib.hid b1
       have Q1 := Lib.hid hq
       obtain ⟨⟨p0, p1⟩, -⟩ := Box.pair (HK.out.1.below G1.out HK.out.1.lt)
       clear b1 hq)
    | (go_at_call 11; (with_reducible refine Calls.mono (C2.out _ G1.out) ?_); rintro e w2 ⟨rfl, b2⟩
       obtain ⟨V2, hV2, k2, d2⟩ := endP w2 36 (.int .i64 xa) (.int .i64 ya)
       have G2 := Lib.hid (G1.out.trans ((b2.trans (d2.mono b2.size)).mono G1.out.size))
       have Q2 := Lib.hid (Q1.out.on (b2.trans (d2.mono b2.size)))
       have K2 := Lib.hid k2
       obtain ⟨⟨p0, p1⟩, -⟩ := Box.pair (HK.out.1.below G2.out HK.out.1.lt)
       clear b2 d2 k2)
    | (rw [hV2])
    | (go_at_call 11; (with_reducible refine Calls.mono (C3.out _ G2.out) ?_); rintro e w3 ⟨rfl, b3⟩
       obtain ⟨V3, hV3, k3, d3⟩ := endP w3 36 (.int .i64 xb) (.int .i64 yb)
       have G3 := Lib.hid (G2.out.trans ((b3.trans (d3.mono b3.size)).mono G2.out.size))
       have Q3 := Lib.hid (Q2.out.on (b3.trans (d3.mono b3.size)))
       have K3 := Lib.hid (And.intro (K2.out.below (b3.trans (d3.mono b3.size)) K2.out.lt) k3)
       obtain ⟨⟨a0, a1⟩, -⟩ := Box.pair K3.out.1
       clear b3 d3 k3)
    | (rw [hV3])
  have HO4 := Lib.hid (And.intro (own_first V3 (.int .i64 xa) (.int .i64 ya)) (below_new V3 (.cells #[.int .i64 xa, .int .i64 ya] 36)))
  clear hW hV2 hV3 a0 a1 p0 p1
  go_loopg [12, 13, 14] m (fun gh v av it wr => ∃ i : Nat, it = .int .i64 (i : Int) ∧ av = .int .i64 (chainTo p i) ∧ gh + i = m ∧ i ≤ m - 1 ∧ wr.ownsRow V3.heap.size 36 2 v (1 + (midsTo p a b i).length) (ptRow ([⟨xa, ya⟩] ++ midsTo p a b i)) ∧ Below V3.heap.size V3 wr)
  case atStart => exact ⟨0, rfl, rfl, by omega, by omega, HO4.out.1, HO4.out.2⟩
  case round =>
    obtain ⟨i, rfl, rfl, hg, hi, hown, hB⟩ := hrel
    have hwi : IntKind.i64.wrap ((i : Int) + 1) = (i : Int) + 1 := IntWalk.i64_in _ (by omega)
    have hml := midsTo_le p a b i
    by_cases hlt : i + 1 < m
    · have hlt' : i + 1 < p.length := by rw [HM.out]; exact hlt
      obtain ⟨g, o, rfl, hgl, e0, e1⟩ := Q3.out.ptD (i := i) (by omega)
      obtain ⟨g', o', hgo, -, e2, e3⟩ := Q3.out.ptD (i := i + 1) hlt'
      cases hgo
      have hst := chain_next p i
      have hcb := chainTo_in p i
      have hmd := mids_next p a b i
      have cL := fun V => ref14_Len (p.getD i pt0) (p.getD (i + 1) pt0) V
      have hll := lenG_lt (p.getD i pt0) (p.getD (i + 1) pt0)
      generalize lenG (p.getD i pt0) (p.getD (i + 1) pt0) = l at hst cL hll
      generalize p.getD i pt0 = q0 at e0 e1 cL hmd
      generalize p.getD (i + 1) pt0 = q1 at e2 e3 cL
      obtain ⟨x0, y0⟩ := q0
      obtain ⟨x1, y1⟩ := q1
      obtain ⟨T, hT⟩ : ∃ T, chainTo p i = T := ⟨_, rfl⟩
      rw [hT] at hst hcb hmd ⊢
      have hws : IntKind.i64.wrap (T + (l : Int)) = T + (l : Int) := IntWalk.i64_in _ (by omega)
      have j0 : (i : Int) + 1 < (m : Int) := by omega
      have j2 : (i : Int) < (m : Int) := by omega
      have j3 : i < m := by omega
      have j1 : 0 ≤ (i : Int) + 1 ∧ (i : Int) + 1 < (m : Int) := by omega
      have t1 : ((i : Int) + 1).toNat = i + 1 := by omega
      unfold ptV at cL
      dsimp only at e0 e1 e2 e3 cL
      have CL := Lib.hid cL
      have HG := Lib.hid hg
      have HST := Lib.hid hst
      have HC := Lib.hid (fun V (h : Below V3.heap.size V3 V) => show ((V.cell? ⟨g, o + i * 2, none⟩ = some (.int .i64 x0) ∧ V.cell? ⟨g, o + i * 2 + 1, none⟩ = some (.int .i64 y0)) ∧ V.cell? ⟨g, o + (i + 1) * 2, none⟩ = some (.int .i64 x1) ∧ V.cell? ⟨g, o + (i + 1) * 2 + 1, none⟩ = some (.int .i64 y1)) ∧ Below V3.heap.size V3 V from
        ⟨⟨⟨(h.cell (p := ⟨g, o + i * 2, none⟩) hgl).trans e0, (h.cell (p := ⟨g, o + i * 2 + 1, none⟩) hgl).trans e1⟩, (h.cell (p := ⟨g, o + (i + 1) * 2, none⟩) hgl).trans e2, (h.cell (p := ⟨g, o + (i + 1) * 2 + 1, none⟩) hgl).trans e3⟩, h⟩)
      obtain ⟨⟨⟨f0, f1⟩, f2, f3⟩, -⟩ := HC.out wr hB
      have HO := Lib.hid (And.intro hown hB)
      clear hown hB cL hst hT hcb hlt' hll hg e0 e1 e2 e3
      by_cases hc : a < T ∧ T < b
      · rw [if_pos hc] at hmd
        obtain ⟨h1, h2⟩ := hc
        have HML := Lib.hid hmd
        generalize midsTo p a b i = M at HO HML hml hmd
        clear hmd
        go_wp2_with (at_builtin; refine wpList_append_own _ rfl _ _ 22 rfl V3.heap.size 36 i0 (.agg #[.int .i64 0, .int .i64 0]) 2 16 Try.underlying22 hi0 hz0 hz1 hz2 rfl (by decide) _ (1 + M.length) _ rfl (HO.out.1.alloc _) ⟨wr.heap.size, 0, none⟩ 1 1 [.int .i64 x0, .int .i64 y0] rfl rfl (two_new _ _ _ _) (by simp [Value.oneCell']) (by simp [maxLen]; omega) (by omega) (by have h1 := HO.out.2.size; simp; omega) ?_; intro v' w5 hown' hgrow _; replace hown' := Lib.hid hown'; replace hgrow := Lib.hid hgrow)
        have HU := Lib.hid (show w5.ownsRow V3.heap.size 36 2 v' (1 + (midsTo p a b (i + 1)).length) (ptRow ([⟨xa, ya⟩] ++ midsTo p a b (i + 1))) ∧ Below V3.heap.size V3 w5 from
          ⟨by
            rw [HML.out, List.length_append, ← List.append_assoc, ptRow_append]
            exact hown'.out, below_grow2 (HO.out.2.alloc HO.out.2.size (.cells #[.int .i64 x0, .int .i64 y0] 36)) (HO.out.1.alloc _) (by have h1 := HO.out.2.size; simp; omega) hgrow.out⟩)
        clear HML hown' hgrow
        obtain ⟨⟨⟨f0, f1⟩, f2, f3⟩, -⟩ := HC.out w5 HU.out.2
        have HP := Lib.hid (HC.out w5.drew (HU.out.2.drew))
        go_region_held3 (fun w' => ((w'.cell? ⟨g, o + i * 2, none⟩ = some (.int .i64 x0) ∧ w'.cell? ⟨g, o + i * 2 + 1, none⟩ = some (.int .i64 y0)) ∧ w'.cell? ⟨g, o + (i + 1) * 2, none⟩ = some (.int .i64 x1) ∧ w'.cell? ⟨g, o + (i + 1) * 2 + 1, none⟩ = some (.int .i64 y1)) ∧ Below V3.heap.size V3 w')
          (first
            | (with_reducible exact HP.out)
            | (with_reducible exact HC.out _ G9.out))
          ((go_at_call 30; (with_reducible refine Calls.mono (CL.out _) ?_); rintro e w9 ⟨rfl, b9⟩; (have B9 : Below w5.heap.size w5 w9 := (Below.refl _ w5).drew.trans b9); (have G9 := Lib.hid (HU.out.2.trans (B9.mono HU.out.2.size))); (have O9 := Lib.hid (own_below HU.out.1 B9)); clear B9 b9))
        rename_i hHeld
        clear hHeld
        go_wp2_with fail
        go_roundg (m - (i + 1))
        case measure => have := HG.out; omega
        case rel => exact ⟨i + 1, by simp, by rw [HST.out], by have := HG.out; omega, by omega, by exact O9.out, G9.out⟩
      · rw [if_neg hc] at hmd
        have HMD := Lib.hid hmd
        rcases (show ¬ a < T ∨ (a < T ∧ ¬ T < b) from by omega) with h1 | ⟨h1, h2⟩
        all_goals
          clear hc hmd
          go_wp2_with fail
          have HP := Lib.hid (HC.out wr.drew (HO.out.2.drew))
          go_region_held3 (fun w' => ((w'.cell? ⟨g, o + i * 2, none⟩ = some (.int .i64 x0) ∧ w'.cell? ⟨g, o + i * 2 + 1, none⟩ = some (.int .i64 y0)) ∧ w'.cell? ⟨g, o + (i + 1) * 2, none⟩ = some (.int .i64 x1) ∧ w'.cell? ⟨g, o + (i + 1) * 2 + 1, none⟩ = some (.int .i64 y1)) ∧ Below V3.heap.size V3 w')
            (first
              | (with_reducible exact HP.out)
              | (with_reducible exact HC.out _ G9.out))
            ((go_at_call 30; (with_reducible refine Calls.mono (CL.out _) ?_); rintro e w9 ⟨rfl, b9⟩; (have B9 : Below wr.heap.size wr w9 := (Below.refl _ wr).drew.trans b9); (have G9 := Lib.hid (HO.out.2.trans (B9.mono HO.out.2.size))); (have O9 := Lib.hid (own_below HO.out.1 B9)); clear B9 b9))
          rename_i hHeld
          clear hHeld
          go_wp2_with fail
          go_roundg (m - (i + 1))
          case measure => have := HG.out; omega
          case rel => exact ⟨i + 1, by simp, by rw [HST.out], by have := HG.out; omega, by omega, by rw [HMD.out]; exact O9.out, G9.out⟩
    · obtain rfl : i = m - 1 := by omega
      have hge : ¬ (((m - 1 : Nat) : Int) + 1 < (m : Int)) := by omega
      have hraw := HRAW.out
      have HO := Lib.hid (And.intro hown hB)
      obtain ⟨⟨b0, b1⟩, -⟩ := Box.pair (K3.out.2.below hB K3.out.2.lt)
      generalize midsTo p a b (m - 1) = M at HO hraw hml
      generalize chainTo p (m - 1) = T
      have hrl : raw.length = 1 + M.length + 1 := by rw [hraw]; simp; omega
      have HRW := Lib.hid (And.intro hraw hrl)
      obtain ⟨j, hj⟩ : ∃ j, m - 1 = j := ⟨_, rfl⟩
      rw [hj] at hge hwi ⊢
      clear hown hB hraw hg hi hj hrl
      go_wp2_with (at_builtin; refine wpList_append_own _ rfl _ _ 22 rfl V3.heap.size 36 i0 (.agg #[.int .i64 0, .int .i64 0]) 2 16 Try.underlying22 hi0 hz0 hz1 hz2 rfl (by decide) _ (1 + M.length) _ rfl (HO.out.1.alloc _) ⟨wr.heap.size, 0, none⟩ 1 1 [.int .i64 xb, .int .i64 yb] rfl rfl (two_new _ _ _ _) (by simp [Value.oneCell']) (by simp [maxLen]; omega) (by omega) (by have h1 := HO.out.2.size; simp; omega) ?_; intro v' w6 hown' hgrow _; replace hown' := Lib.hid hown'; replace hgrow := Lib.hid hgrow)
      have ho6 : w6.ownsRow V3.heap.size 36 2 v' raw.length (ptRow raw) := by
        rw [HRW.out.2, HRW.out.1, ptRow_append]
        exact hown'.out
      have hB6 := below_grow2 (HO.out.2.alloc HO.out.2.size (.cells #[.int .i64 xb, .int .i64 yb] 36)) (HO.out.1.alloc _) (by have h1 := HO.out.2.size; simp; omega) hgrow.out
      obtain ⟨N, hN⟩ : ∃ N, raw.length = N := ⟨_, rfl⟩
      rw [hN] at ho6
      obtain ⟨qa, kka, rfl, hka, -, hra⟩ := RdV.ofOwnK ho6
      have hNe : 1 + M.length + 1 = N := by rw [← hN, HRW.out.2]
      have HRR := Lib.hid (And.intro hra hB6)
      have HNN := Lib.hid hN
      have hNb : N ≤ 1048580 := by omega
      rw [hN] at HPC
      (try rw [hNe])
      clear ho6 hB6 hra hown' hgrow hN hka HO
      go_wp2_with fail
      go_loopg [15, 16] N (fun gh v it wr2 => ∃ j : Nat, it = .int .i64 (j : Int) ∧ gh + j = N ∧ wr2.ownsRow w6.heap.size 36 2 v (onceTo raw j).length (ptRow (onceTo raw j)) ∧ Below w6.heap.size w6 wr2)
      case atStart => exact ⟨0, rfl, by omega, by simpa [onceTo, ptRow] using World.ownsRow_nil w6 w6.heap.size 36 2, Below.refl _ _⟩
      case round =>
        obtain ⟨j, rfl, hg2, hown2, hB2⟩ := hrel
        have hol := onceTo_le raw j
        have hwj : IntKind.i64.wrap ((j : Int) + 1) = (j : Int) + 1 := IntWalk.i64_in _ (by omega)
        have HO := Lib.hid (And.intro hown2 hB2)
        have HG2 := Lib.hid hg2
        by_cases hltj : j < N
        · have hlj : j < raw.length := by rw [HNN.out]; exact hltj
          have hon := once_next raw j
          have hjl : (j : Int) < (N : Int) := by omega
          obtain ⟨g, o, rfl, hgl, e0, e1⟩ := (HRR.out.1.on hB2).ptD hlj
          by_cases hj0 : j = 0
          · subst hj0
            rw [if_pos (.inl rfl)] at hon
            generalize raw.getD 0 pt0 = z at e0 e1 hon
            obtain ⟨x0, y0⟩ := z
            dsimp only at e0 e1
            have HON := Lib.hid hon
            generalize onceTo raw 0 = M2 at HO HON hol hon
            clear hon hown2 hB2 hg2 hlj
            simp only [Nat.zero_mul, Nat.add_zero] at e0 e1
            go_wp2_with fail
            go_quiet (fail)
            have hQ := And.intro (And.intro HO.out.1 (below_figE HO.out.2 nq)) (And.intro e0 e1)
            obtain ⟨X, hX⟩ : ∃ X, wr.drewN nq = X := ⟨_, rfl⟩
            replace HO := Lib.hid (show X.ownsRow w6.heap.size 36 2 _ M2.length (ptRow M2) ∧ Below w6.heap.size w6 X from by rw [← hX]; exact hQ.1)
            have f0 : X.cell? ⟨g, o, none⟩ = some (.int .i64 x0) := by rw [← hX]; exact hQ.2.1
            have f1 : X.cell? ⟨g, o + 1, none⟩ = some (.int .i64 y0) := by rw [← hX]; exact hQ.2.2
            rw [hX]
            clear hX hQ e0 e1
            go_wp2_with (at_builtin; refine wpList_append_own _ rfl _ _ 22 rfl w6.heap.size 36 i0 (.agg #[.int .i64 0, .int .i64 0]) 2 16 Try.underlying22 hi0 hz0 hz1 hz2 rfl (by decide) _ M2.length _ rfl (HO.out.1.alloc _) ⟨X.heap.size, 0, none⟩ 1 1 [.int .i64 x0, .int .i64 y0] rfl rfl (two_new _ _ _ _) (by simp [Value.oneCell']) (by simp [maxLen]; omega) (by omega) (by have h1 := HO.out.2.size; simp; omega) ?_; intro v' w7 hown' hgrow _; replace hown' := Lib.hid hown'; replace hgrow := Lib.hid hgrow)
            have hstep : w7.ownsRow w6.heap.size 36 2 v' (onceTo raw (0 + 1)).length (ptRow (onceTo raw (0 + 1))) := by
              rw [HON.out, List.length_append, ptRow_append]
              exact hown'.out
            have hBs := below_grow2 (HO.out.2.alloc HO.out.2.size (.cells #[.int .i64 x0, .int .i64 y0] 36)) (HO.out.1.alloc _) (by have h1 := HO.out.2.size; simp; omega) hgrow.out
            go_roundg (N - (0 + 1))
            case measure => have := HG2.out; omega
            case rel => exact ⟨0 + 1, by simp, by have := HG2.out; omega, hstep, hBs⟩
          · obtain ⟨g', o', hgo, -, e2, e3⟩ := (HRR.out.1.on hB2).ptD (i := j - 1) (by omega)
            cases hgo
            obtain ⟨j2, hj2⟩ : ∃ j2, j - 1 = j2 := ⟨_, rfl⟩
            have hjj : j = j2 + 1 := by omega
            rw [hj2] at e2 e3 hon
            have hw1 : IntKind.i64.wrap ((j : Int) - 1) = (j2 : Int) := by rw [IntWalk.i64_in _ (by omega)]; omega
            have hjm : (j : Int) - 1 = (j2 : Int) := by omega
            have hwj2 : IntKind.i64.wrap (j2 : Int) = (j2 : Int) := IntWalk.i64_in _ (by omega)
            have k1 : (j2 : Int) < (N : Int) := by omega
            have k2 : j2 < N := by omega
            have k3 : ((j : Int) == 0) = false := by simp; omega
            generalize raw.getD j pt0 = z at e0 e1 hon
            generalize raw.getD j2 pt0 = z2 at e2 e3 hon
            obtain ⟨x0, y0⟩ := z
            obtain ⟨x2, y2⟩ := z2
            dsimp only at e0 e1 e2 e3
            have HON := Lib.hid hon
            generalize onceTo raw j = M2 at HO HON hol hon
            clear hon hown2 hB2 hg2 hlj hj2 hjj
            by_cases hz : x0 = x2 ∧ y0 = y2
            · obtain ⟨rfl, rfl⟩ := hz
              have HE := Lib.hid (show onceTo raw (j + 1) = M2 from by rw [HON.out, if_neg (by simp [hj0])])
              clear HON
              go_wp2_with fail
              go_quiet (fail)
              go_wp2_with fail
              go_roundg (N - (j + 1))
              case measure => have := HG2.out; omega
              case rel => exact ⟨j + 1, by simp, by have := HG2.out; omega, by rw [HE.out]; exact HO.out.1, below_figE HO.out.2 nq⟩
            · have HE := Lib.hid (show onceTo raw (j + 1) = M2 ++ [⟨x0, y0⟩] from by rw [HON.out, if_pos (.inr (fun h => hz ⟨congrArg Pt.x h, congrArg Pt.y h⟩))])
              clear HON
              rcases (show ¬ x0 = x2 ∨ (x0 = x2 ∧ ¬ y0 = y2) from by
                by_cases h1 : x0 = x2
                · exact .inr ⟨h1, fun h2 => hz ⟨h1, h2⟩⟩
                · exact .inl h1) with h1 | ⟨rfl, h2⟩
              all_goals
                clear hz
                go_wp2_with fail
                go_quiet (fail)
                have hQ := And.intro (And.intro HO.out.1 (below_figE HO.out.2 nq)) (And.intro e0 e1)
                obtain ⟨X, hX⟩ : ∃ X, wr.drewN nq = X := ⟨_, rfl⟩
                replace HO := Lib.hid (show X.ownsRow w6.heap.size 36 2 _ M2.length (ptRow M2) ∧ Below w6.heap.size w6 X from by rw [← hX]; exact hQ.1)
                have f0 : X.cell? ⟨g, o + j * 2, none⟩ = some (.int .i64 x0) := by rw [← hX]; exact hQ.2.1
                have f1 : X.cell? ⟨g, o + j * 2 + 1, none⟩ = some (.int .i64 y0) := by rw [← hX]; exact hQ.2.2
                rw [hX]
                clear hX hQ e0 e1
                go_wp2_with (at_builtin; refine wpList_append_own _ rfl _ _ 22 rfl w6.heap.size 36 i0 (.agg #[.int .i64 0, .int .i64 0]) 2 16 Try.underlying22 hi0 hz0 hz1 hz2 rfl (by decide) _ M2.length _ rfl (HO.out.1.alloc _) ⟨X.heap.size, 0, none⟩ 1 1 [.int .i64 x0, .int .i64 y0] rfl rfl (two_new _ _ _ _) (by simp [Value.oneCell']) (by simp [maxLen]; omega) (by omega) (by have h1 := HO.out.2.size; simp; omega) ?_; intro v' w7 hown' hgrow _; replace hown' := Lib.hid hown'; replace hgrow := Lib.hid hgrow)
                have hstep : w7.ownsRow w6.heap.size 36 2 v' (onceTo raw (j + 1)).length (ptRow (onceTo raw (j + 1))) := by
                  rw [HE.out, List.length_append, ptRow_append]
                  exact hown'.out
                have hBs := below_grow2 (HO.out.2.alloc HO.out.2.size (.cells #[.int .i64 x0, .int .i64 y0] 36)) (HO.out.1.alloc _) (by have h1 := HO.out.2.size; simp; omega) hgrow.out
                go_roundg (N - (j + 1))
                case measure => have := HG2.out; omega
                case rel => exact ⟨j + 1, by simp, by have := HG2.out; omega, hstep, hBs⟩
        · obtain rfl : j = N := by omega
          have HRES := Lib.hid HPC.out
          clear hown2 hB2 hg2
          go_wp2_with fail
          go_ret
          have hw6 : Below w.heap.size w w6 := HK.out.2.trans (((G3.out.trans (HRR.out.2.mono G3.out.size))).mono HK.out.2.size)
          rw [HRES.out]
          exact ⟨⟨_, rfl, own_mono HO.out.1 hw6.size⟩, hw6.trans (HO.out.2.mono hw6.size)⟩
end Go.Proofs.Ytkebffkekinblaa
/- Lines in pieces, the document's own: Cut. -/

namespace Go.Proofs.Ytkebffkekinblaa
open Go.RowKit

theorem min2_runD {P : Program} (a b m : Int) (h : min a b = m) (ts : Array TypeId) (t : TypeId) (W : World) : (Builtin.min_ ts t #[.int .i64 a, .int .i64 b]).run P W = .ok (.int .i64 m) W := by
  rw [run_min_int2]
  congr 2
  omega
theorem max2_runD {P : Program} (a b m : Int) (h : max a b = m) (ts : Array TypeId) (t : TypeId) (W : World) : (Builtin.max_ ts t #[.int .i64 a, .int .i64 b]).run P W = .ok (.int .i64 m) W := by
  rw [run_max_int2]
  congr 2
  omega
theorem min2_iteD {a b m : Int} (h : min a b = m) : (if b < a then b else a) = m := by omega
theorem max2_iteD {a b m : Int} (h : max a b = m) : (if a < b then b else a) = m := by omega
theorem cutGo_end {p : List Int} {l : List Pt} {c : Bool} {e : Int} {f k n : Nat} {at0 : Int} {out : List Ln} (h : f = 0 ∨ ¬ at0 < e) : cutGo p l c e f k at0 n out = (out, 0) := by
  cases f with
  | zero => rfl
  | succ f =>
    rcases h with h | h
    · omega
    · show (if _ then _ else _) = _
      rw [if_neg h]
theorem cutGo_skip {p : List Int} {l : List Pt} {c : Bool} {e : Int} {f k n : Nat} {at0 : Int} {out : List Ln} (h : at0 < e) (h2 : ¬ 0 < at0 + p.getD (k % p.length) 0) : cutGo p l c e (f + 1) k at0 n out = cutGo p l c e f (k + 1) (at0 + p.getD (k % p.length) 0) n out := by
  show (if _ then _ else _) = _
  rw [if_pos h, if_neg h2]
theorem cutGo_many {p : List Int} {l : List Pt} {c : Bool} {e : Int} {f k n : Nat} {at0 : Int} {out : List Ln} (h : at0 < e) (h2 : 0 < at0 + p.getD (k % p.length) 0) (h3 : 1000 < n + 1) : cutGo p l c e (f + 1) k at0 n out = ([], 7) := by
  show (if _ then _ else _) = _
  rw [if_pos h, if_pos h2, if_pos h3]
theorem cutGo_step {p : List Int} {l : List Pt} {c : Bool} {e : Int} {f k n : Nat} {at0 : Int} {out : List Ln} (h : at0 < e) (h2 : 0 < at0 + p.getD (k % p.length) 0) (h3 : ¬ 1000 < n + 1) : cutGo p l c e (f + 1) k at0 n out = cutGo p l c e f (k + 1) (at0 + p.getD (k % p.length) 0) (n + 1) (cutStep l c e k at0 (at0 + p.getD (k % p.length) 0) out) := by
  show (if _ then _ else _) = _
  rw [if_pos h, if_pos h2, if_neg h3]
/-- what Cut answers -/
def CutTo (L : List Pt) (cl : Bool) (P : List Int) (h : Int) (w : World) (e : Ending) (w' : World) : Prop :=
  (∃ q k V, e = .returned (.tuple #[.slice q (List.length V) k, .int .i64 (cutM L cl P h).2]) ∧ Lv.all V = (cutM L cl P h).1 ∧ V.length ≤ k ∧ RdLn w' w'.heap.size q V) ∧ Below w.heap.size w w'
theorem cutM_arg {L : List Pt} {cl : Bool} {P : List Int} {h : Int} (hm : ¬ MayD P h) : cutM L cl P h = ([], 2) := if_pos hm
theorem cutM_range {L : List Pt} {cl : Bool} {P : List Int} {h : Int} (hm : MayD P h) (hf : ¬ FitL L) : cutM L cl P h = ([], 4) := by
  unfold cutM
  rw [if_neg (fun k => k hm), if_pos hf]
theorem cutM_none {L : List Pt} {cl : Bool} {h : Int} (hm : MayD [] h) (hf : FitL L) : cutM L cl [] h = ([⟨L, cl⟩], 0) := by
  unfold cutM
  rw [if_neg (fun k => k hm), if_neg (fun k => k hf), if_pos rfl]
theorem cutM_go {L : List Pt} {cl : Bool} {P : List Int} {h : Int} (hm : MayD P h) (hf : FitL L) (hp : P ≠ []) : cutM L cl P h = cutGo (pattP P) L cl (longM L cl) 2000 0 (-(h % totalP P)) 0 [] := by
  unfold cutM
  rw [if_neg (fun k => k hm), if_neg (fun k => k hf), if_neg hp]

set_option maxRecDepth 10000 in
set_option maxHeartbeats 12800000 in
theorem ref15_Cut (L : List Pt) (A : Option Addr) (c : Nat) (cl : Bool) (P : List Int) (B : Option Addr) (d : Nat) (h : Int) (w : World) (hL : RdV w w.heap.size A (ptRow L)) (hl : L.length ≤ 1048576) (hP : RdV w w.heap.size B (icells P)) (hp : P.length ≤ 4611686018427387904) :
    Calls Try.prog 7 #[.agg #[.slice A L.length c, .bool cl], .slice B P.length d, .int .i64 h] w (CutTo L cl P h w) := by
  obtain ⟨W, hW, kW, bW⟩ := line_box w (.slice A L.length c) (.bool cl)
  have HL := Lib.hid (hL.on bW)
  have HPR := Lib.hid (hP.on bW)
  have c1 := fun V (hb : Below W.heap.size W V) => ref15_May P B d h V (HPR.out.on hb) hp
  have c2 := fun V (hb : Below W.heap.size W V) => ref14_Fits L A c V (HL.out.on hb) (by omega)
  obtain ⟨nl, hnl⟩ : ∃ nl, L.length = nl := ⟨_, rfl⟩
  have HNL := Lib.hid hnl
  obtain ⟨np, hnp⟩ : ∃ np, P.length = np := ⟨_, rfl⟩
  have HNP := Lib.hid hnp
  rw [hnl] at c2 kW hW hl ⊢
  rw [hnp] at c1 hp ⊢
  obtain ⟨⟨p0, p1⟩, -⟩ := Box.pair kW
  have HK := Lib.hid (And.intro kW bW)
  unfold CutTo
  by_cases hm : MayD P h
  · rw [decide_eq_true hm] at c1
    have C1 := Lib.hid c1
    by_cases hf : FitL L
    · rw [decide_eq_true hf] at c2
      have C2 := Lib.hid c2
      by_cases hP0 : P = []
      · subst hP0
        obtain rfl : np = 0 := by rw [← hnp]; rfl
        rw [cutM_none hm hf]
        clear c1 c2 hL hP hnl hnp kW bW hm hf
        go_enter Try.func7, Try.ntmps7
        go_wp2_with first
          | (rw [hW])
          | (go_at_call 12; (with_reducible refine Calls.mono (C1.out _ (Below.refl _ _)) ?_); rintro e w1 ⟨rfl, rfl⟩)
          | (go_at_call 24; (with_reducible refine Calls.mono (C2.out _ (Below.refl _ _)) ?_); rintro e w2 ⟨rfl, b2⟩
             have G2 := Lib.hid b2
             obtain ⟨⟨p0, p1⟩, -⟩ := Box.pair (HK.out.1.below G2.out HK.out.1.lt)
             clear b2)
        go_ret2
        have kB := Box.new w2 24 [.slice A nl c, .bool cl]
        have hb2 := G2.out.trans ((below_new w2 (.cells #[.slice A nl c, .bool cl] 24)).mono G2.out.size)
        refine ⟨⟨some ⟨w2.heap.size, 0, none⟩, 1, [⟨A, c, L, cl⟩], rfl, rfl, Nat.le_refl _, ?_, ?_⟩, HK.out.2.trans (hb2.mono HK.out.2.size)⟩
        · rw [show lvRow [⟨A, c, L, cl⟩] = [.slice A nl c, .bool cl] from by rw [← HNL.out]; rfl]
          exact kB.rd
        · intro x hx
          rw [List.mem_singleton] at hx
          subst hx
          exact HL.out.on hb2
      · have hpos : 0 < P.length := List.length_pos_iff.2 hP0
        have c3 := fun V (hb : Below W.heap.size W V) => ref15_Pattern P B d V (HPR.out.on hb) (by have := hm.1; omega)
        have c4 := fun V (hb : Below W.heap.size W V) => ref15_Total P B d h hm V (HPR.out.on hb)
        have c5 := fun V (hb : Below W.heap.size W V) => ref14_Long L A c cl V (HL.out.on hb) (by omega)
        have c6 := fun a b (ha : -9223372036854775808 ≤ a ∧ a ≤ 9223372036854775807) (hb : -9223372036854775808 ≤ b ∧ b ≤ 9223372036854775807) V (hbl : Below W.heap.size W V) => ref15_piece L A c cl a b ha hb V (HL.out.on hbl) (by omega)
        have hR := cutM_go (cl := cl) hm hf hP0
        have htp := totalP_pos hm hpos
        have hti := (totalP_in hm).2
        have hlm : 0 ≤ longM L cl ∧ longM L cl ≤ 35184372088832 := by
          rw [longM_ring hf cl]
          have h1 := chainTo_in (ringP L cl) ((ringP L cl).length - 1)
          have h2 := (ringP_le L cl).2
          omega
        have HPM := Lib.hid (fun x (hx : x ∈ pattP P) => hm.2.2 x (pattP_mem.1 hx))
        have hpl := pattP_pos hpos
        have hpl2 := pattP_le P
        have hp8 := hm.1
        obtain ⟨hh1, hh2⟩ := hm.2.1
        rw [hnl] at c5 c6
        rw [hnp] at c3 c4
        unfold Patted at c3
        unfold Pieced at c6
        obtain ⟨T, hT⟩ : ∃ T, totalP P = T := ⟨_, rfl⟩
        obtain ⟨E, hE⟩ : ∃ T, longM L cl = T := ⟨_, rfl⟩
        rw [hT] at c4 hR htp hti
        rw [hE] at c5 hR hlm
        obtain ⟨X, hX⟩ : ∃ X, cutM L cl P h = X := ⟨_, rfl⟩
        rw [hX] at hR ⊢
        generalize pattP P = Q at c3 hR hpl hpl2 HPM
        obtain ⟨N, hN⟩ : ∃ N, Q.length = N := ⟨_, rfl⟩
        have HN := Lib.hid hN
        rw [hN] at c3 hpl hpl2
        have hN16 : N ≤ 16 := by omega
        obtain ⟨s0, hs0⟩ : ∃ s, h % T = s := ⟨_, rfl⟩
        have hsb : 0 ≤ s0 ∧ s0 < T := by rw [← hs0]; exact ⟨Int.emod_nonneg _ (by omega), Int.emod_lt_of_pos _ (by omega)⟩
        have htm : h.tmod T = s0 := by rw [Int.tmod_eq_emod_of_nonneg (by omega)]; exact hs0
        rw [hs0] at hR
        have hwn : IntKind.i64.wrap (-s0) = -s0 := IntWalk.i64_in _ (by omega)
        have hTz : ¬ T = 0 := by omega
        have hnpz : ((np : Int) == 0) = false := by simp; omega
        have C3 := Lib.hid c3
        have C4 := Lib.hid c4
        have C5 := Lib.hid c5
        have C6 := Lib.hid c6
        have HR := Lib.hid hR
        obtain ⟨i0, hi0, hz0, hz1, hz2⟩ := info_parts info_ln
        clear c1 c2 c3 c4 c5 c6 hL hP hnl kW bW hm hf hP0 hpos hT hE hX hN hR hs0 hpl2 hp8 hh1 hh2 hp
        go_enter Try.func7, Try.ntmps7
        go_wp2_with first
          | (rw [hW])
          | (go_at_call 12; (with_reducible refine Calls.mono (C1.out _ (Below.refl _ _)) ?_); rintro e w1 ⟨rfl, rfl⟩)
          | (go_at_call 24; (with_reducible refine Calls.mono (C2.out _ (Below.refl _ _)) ?_); rintro e w2 ⟨rfl, b2⟩
             have G2 := Lib.hid b2
             clear b2)
          | (go_at_call 25; (with_reducible refine Calls.mono (C3.out _ G2.out) ?_); rintro e w3 ⟨⟨qp, kp, rfl, -, hq⟩, b3⟩
             have G3 := Lib.hid (G2.out.trans (b3.mono G2.out.size))
             have Q3 := Lib.hid hq
             clear b3 hq)
          | (go_at_call 15; (with_reducible refine Calls.mono (C4.out _ G3.out) ?_); rintro e w4 ⟨rfl, b4⟩
             have G4 := Lib.hid (G3.out.trans (b4.mono G3.out.size))
             have Q4 := Lib.hid (Q3.out.on b4)
             obtain ⟨⟨p0, p1⟩, -⟩ := Box.pair (HK.out.1.below G4.out HK.out.1.lt)
             clear b4)
          | (go_at_call 17; (with_reducible refine Calls.mono (C5.out _ G4.out) ?_); rintro e w5 ⟨rfl, b5⟩
             have G5 := Lib.hid (G4.out.trans (b5.mono G4.out.size))
             have Q5 := Lib.hid (Q4.out.on b5)
             clear b5)
        clear p0 p1 hW
        go_loopg [9, 11, 12, 13] 2000 (fun gh av ov nv kv wr => ∃ (k n : Nat) (at0 : Int) (V : List Lv), kv = .int .i64 (k : Int) ∧ av = .int .i64 at0 ∧ nv = .int .i64 (n : Int) ∧ gh + k = 2000 ∧ cutGo Q L cl E (2000 - k) k at0 n (Lv.all V) = X ∧ V.length ≤ k ∧ n ≤ 1000 ∧ (-134217712 ≤ at0 ∧ at0 ≤ 35184380477439) ∧ OwnLn wr w5.heap.size ov V ∧ Below w5.heap.size w5 wr)
        case atStart => exact ⟨0, 0, -s0, [], rfl, rfl, rfl, by omega, HR.out.symm, Nat.le_refl _, by omega, by omega, OwnLn.nil _ _, Below.refl _ _⟩
        case round =>
          obtain ⟨k, n, at0, V, rfl, rfl, rfl, hg, hcut, hvk, hn, hat, hown, hB⟩ := hrel
          have hwk : IntKind.i64.wrap ((k : Int) + 1) = (k : Int) + 1 := IntWalk.i64_in _ (by omega)
          have hB0 := G5.out.trans (hB.mono G5.out.size)
          have HO := Lib.hid (And.intro hown (And.intro hB hB0))
          have HG := Lib.hid (And.intro hg hvk)
          obtain ⟨⟨p0, p1⟩, -⟩ := Box.pair (HK.out.1.below hB0 HK.out.1.lt)
          by_cases hlt : k < 2000 ∧ at0 < E
          · obtain ⟨hk2, hae⟩ := hlt
            obtain ⟨f, hf⟩ : ∃ f, 2000 - k = f + 1 := ⟨2000 - k - 1, by omega⟩
            have hf1 : 2000 - (k + 1) = f := by omega
            rw [hf] at hcut
            have hkl : (k : Int) < 2000 := by omega
            have hj : k % N < N := Nat.mod_lt _ hpl
            have hrem : (k : Int).tmod (N : Int) = ((k % N : Nat) : Int) := by rw [Int.tmod_eq_emod_of_nonneg (by omega)]; omega
            have hNz : ¬ (N : Int) = 0 := by omega
            have hskip := cutGo_skip (p := Q) (l := L) (c := cl) (e := E) (f := f) (k := k) (n := n) (at0 := at0) (out := Lv.all V) hae
            have hmany := cutGo_many (p := Q) (l := L) (c := cl) (e := E) (f := f) (k := k) (n := n) (at0 := at0) (out := Lv.all V) hae
            have hstep := cutGo_step (p := Q) (l := L) (c := cl) (e := E) (f := f) (k := k) (n := n) (at0 := at0) (out := Lv.all V) hae
            rw [hcut, HN.out] at hskip hmany hstep
            obtain ⟨j, hje⟩ : ∃ j, k % N = j := ⟨_, rfl⟩
            rw [hje] at hj hrem hskip hmany hstep
            have hjQ : j < Q.length := by rw [HN.out]; exact hj
            obtain ⟨g, o, rfl, hgl, e0⟩ := (Q5.out.on hB).num (i := j) hjQ
            have hx := HPM.out _ (List.getElem_mem hjQ)
            have hgx : Q.getD j 0 = Q[j] := by simp [List.getD, List.getElem?_eq_getElem hjQ]
            rw [hgx] at hskip hmany hstep
            generalize Q[j] = x at e0 hx hskip hmany hstep
            have hjl : (j : Int) < (N : Int) := by omega
            have hwj : IntKind.i64.wrap (j : Int) = (j : Int) := IntWalk.i64_in _ (by omega)
            obtain ⟨b, hb⟩ : ∃ b, at0 + x = b := ⟨_, rfl⟩
            rw [hb] at hskip hmany hstep
            have hbb : -134217712 ≤ b ∧ b ≤ 35184380477439 := by omega
            have hwb : IntKind.i64.wrap b = b := IntWalk.i64_in _ (by omega)
            have hwn : IntKind.i64.wrap ((n : Int) + 1) = (n : Int) + 1 := IntWalk.i64_in _ (by omega)
            by_cases h0 : 0 < b
            · by_cases h1 : 1000 < n + 1
              · have HX := Lib.hid (hmany h0 h1)
                have h1' : (1000 : Int) < (n : Int) + 1 := by omega
                clear hskip hmany hstep hcut hown hB hB0 hg hvk hjQ hgx hx
                go_wp2_with fail
                go_ret2
                rw [HX.out]
                exact ⟨⟨none, 0, [], rfl, rfl, Nat.le_refl _, RdLn.nil _ _ _⟩, HK.out.2.trans (HO.out.2.2.mono HK.out.2.size)⟩
              · have HX := Lib.hid (hstep h0 h1)
                have h1' : ¬ (1000 : Int) < (n : Int) + 1 := by omega
                have hmod : (k : Int).tmod 2 = ((k % 2 : Nat) : Int) := by rw [Int.tmod_eq_emod_of_nonneg (by omega)]; omega
                have HCS := Lib.hid (show cutStep L cl E k at0 b (Lv.all V) = if k % 2 = 0 ∧ 1 < (pieceP L cl (max at0 0) (min b E)).length then Lv.all V ++ [⟨pieceP L cl (max at0 0) (min b E), false⟩] else Lv.all V from rfl)
                clear hskip hmany hstep hcut hown hB hB0 hg hvk hjQ hgx hx
                rcases (show k % 2 = 0 ∨ k % 2 = 1 from by omega) with hm2 | hm2
                · rw [hm2] at hmod
                  obtain ⟨M1, hM1⟩ : ∃ m, max at0 0 = m := ⟨_, rfl⟩
                  obtain ⟨M2, hM2⟩ : ∃ m, min b E = m := ⟨_, rfl⟩
                  have r1 := fun ts t W => max2_runD (P := Try.prog) at0 0 M1 hM1 ts t W
                  have r2 := fun ts t W => min2_runD (P := Try.prog) b E M2 hM2 ts t W
                  have v1 := max2_iteD hM1
                  have v2 := min2_iteD hM2
                  have cp := C6.out M1 M2 (by omega) (by omega)
                  have hzl := pieceP_le L cl M1 M2
                  have hcs := HCS.out
                  rw [hM1, hM2] at hcs
                  generalize pieceP L cl M1 M2 = Z at cp hcs hzl
                  obtain ⟨nz, hnz⟩ : ∃ n, Z.length = n := ⟨_, rfl⟩
                  have HNZ := Lib.hid hnz
                  rw [hnz] at cp hcs
                  have CP := Lib.hid cp
                  have HCS2 := Lib.hid hcs
                  clear hM1 hM2 cp hcs hzl hnz HCS
                  by_cases hz : 1 < nz
                  · have hzi : (1 : Int) < (nz : Int) := by omega
                    have HCS3 := Lib.hid (show cutStep L cl E k at0 b (Lv.all V) = Lv.all V ++ [⟨Z, false⟩] from by rw [HCS2.out, if_pos ⟨hm2, hz⟩])
                    clear HCS2
                    go_wp2_with first
                      | (go_at_call 26; (with_reducible refine Calls.mono (CP.out _ HO.out.2.2) ?_); rintro e w9 ⟨⟨vz, rfl, hoz⟩, b9⟩
                         obtain ⟨qz, kz, rfl, hkz, -, -⟩ := RdV.ofOwnK hoz
                         have HZ := Lib.hid (And.intro hoz b9)
                         have hO9 := HO.out.1.kept b9
                         have hB9 := HO.out.2.1.trans (b9.mono HO.out.2.1.size)
                         have hO10 := hO9.kept (below_new w9 (.cells #[.slice qz nz kz, .bool false] 24))
                         have hB10 := hB9.alloc hB9.size (.cells #[.slice qz nz kz, .bool false] 24)
                         have hz10 := own_below (own_mono hoz HO.out.2.1.size) (below_new w9 (.cells #[.slice qz nz kz, .bool false] 24))
                         have H10 := Lib.hid (And.intro hO10 (And.intro hB10 hz10))
                         have HNW := Lib.hid (two_new w9 24 (.slice qz nz kz) (.bool false))
                         clear hoz b9 hO9 hB9 hO10 hB10 hz10)
                      | (at_builtin; refine wpList_append_own _ rfl _ _ 26 rfl w5.heap.size 24 i0 (.agg #[.slice none 0 0, .bool false]) 2 32 Try.underlying26 hi0 hz0 hz1 hz2 rfl (by decide) _ V.length _ rfl H10.out.1.1 ⟨w9.heap.size, 0, none⟩ 1 1 [.slice qz nz kz, .bool false] rfl rfl HNW.out (by simp [Value.oneCell']) (by have := HG.out; simp [maxLen]; omega) (by have := HG.out; omega) H10.out.2.1.size ?_; intro v' w10 hown' hgrow _; replace hown' := Lib.hid hown'; replace hgrow := Lib.hid hgrow)
                    have hfin : OwnLn w10 w5.heap.size v' (V ++ [⟨qz, kz, Z, false⟩]) := by
                      refine H10.out.1.snoc (x := ⟨qz, kz, Z, false⟩) ?_ hgrow.out ?_
                      · show World.ownsRow _ _ _ _ (.slice qz Z.length kz) Z.length (ptRow Z)
                        rw [HNZ.out]; exact H10.out.2.2
                      · show World.ownsRow _ _ _ _ _ _ (lvRow V ++ [.slice qz Z.length kz, .bool false])
                        rw [HNZ.out]; exact hown'.out
                    have hBs := below_grow2 H10.out.2.1 H10.out.1.1 H10.out.2.1.size hgrow.out
                    go_roundg (2000 - (k + 1))
                    case measure => have := HG.out.1; omega
                    case rel => exact ⟨k + 1, n + 1, b, V ++ [⟨qz, kz, Z, false⟩], by simp, rfl, by simp, by have := HG.out.1; omega, by
                      rw [hf1, HX.out, HCS3.out]
                      simp [Lv.all, Lv.ln], by have := HG.out.2; simp; omega, by omega, hbb, hfin, hBs⟩
                  · have hzi : ¬ (1 : Int) < (nz : Int) := by omega
                    have HCS3 := Lib.hid (show cutStep L cl E k at0 b (Lv.all V) = Lv.all V from by rw [HCS2.out, if_neg (fun h => hz h.2)])
                    clear HCS2
                    go_wp2_with first
                      | (go_at_call 26; (with_reducible refine Calls.mono (CP.out _ HO.out.2.2) ?_); rintro e w9 ⟨⟨vz, rfl, hoz⟩, b9⟩
                         obtain ⟨qz, kz, rfl, hkz, -, -⟩ := RdV.ofOwnK hoz
                         have H10 := Lib.hid (And.intro (HO.out.1.kept b9) (HO.out.2.1.trans (b9.mono HO.out.2.1.size)))
                         clear hoz b9)
                    go_roundg (2000 - (k + 1))
                    case measure => have := HG.out.1; omega
                    case rel => exact ⟨k + 1, n + 1, b, V, by simp, rfl, by simp, by have := HG.out.1; omega, by rw [hf1, HX.out, HCS3.out], by have := HG.out.2; omega, by omega, hbb, H10.out.1, H10.out.2⟩
                · rw [hm2] at hmod
                  have HCS3 := Lib.hid (show cutStep L cl E k at0 b (Lv.all V) = Lv.all V from by rw [HCS.out, if_neg (fun h => by omega)])
                  clear HCS
                  go_wp2_with fail
                  go_roundg (2000 - (k + 1))
                  case measure => have := HG.out.1; omega
                  case rel => exact ⟨k + 1, n + 1, b, V, by simp, rfl, by simp, by have := HG.out.1; omega, by rw [hf1, HX.out, HCS3.out], by have := HG.out.2; omega, by omega, hbb, HO.out.1, HO.out.2.1⟩
            · have HX := Lib.hid (hskip h0)
              clear hskip hmany hstep hcut hown hB hB0 hg hvk hjQ hgx hx
              go_wp2_with fail
              go_roundg (2000 - (k + 1))
              case measure => have := HG.out.1; omega
              case rel => exact ⟨k + 1, n, b, V, by simp, rfl, rfl, by have := HG.out.1; omega, by rw [hf1, HX.out], by have := HG.out.2; omega, by omega, hbb, HO.out.1, HO.out.2.1⟩
          · have hend := cutGo_end (p := Q) (l := L) (c := cl) (e := E) (f := 2000 - k) (k := k) (n := n) (at0 := at0) (out := Lv.all V) (by omega)
            rw [hcut] at hend
            obtain ⟨q9, k9, rfl, hk9, hr9⟩ := hown.rd
            have HF := Lib.hid (And.intro hend (And.intro hk9 hr9))
            clear hcut hend hown hB hB0 hg hvk hr9 hk9
            rcases (show ¬ (k : Int) < 2000 ∨ ((k : Int) < 2000 ∧ ¬ at0 < E) from by omega) with h1 | ⟨h1, h2⟩
            all_goals
              clear hlt
              go_wp2_with fail
              go_ret2
              rw [HF.out.1]
              exact ⟨⟨q9, k9, V, rfl, rfl, HF.out.2.1, HF.out.2.2⟩, HK.out.2.trans (HO.out.2.2.mono HK.out.2.size)⟩
    · rw [decide_eq_false hf] at c2
      have C2 := Lib.hid c2
      rw [cutM_range hm hf]
      clear c1 c2 hL hP hnl hnp kW bW hm hf
      go_enter Try.func7, Try.ntmps7
      go_wp2_with first
        | (rw [hW])
        | (go_at_call 12; (with_reducible refine Calls.mono (C1.out _ (Below.refl _ _)) ?_); rintro e w1 ⟨rfl, rfl⟩)
        | (go_at_call 24; (with_reducible refine Calls.mono (C2.out _ (Below.refl _ _)) ?_); rintro e w2 ⟨rfl, b2⟩)
      go_ret2
      exact ⟨⟨none, 0, [], rfl, rfl, Nat.le_refl _, RdLn.nil _ _ _⟩, HK.out.2.trans (b2.mono HK.out.2.size)⟩
  · rw [decide_eq_false hm] at c1
    have C1 := Lib.hid c1
    rw [cutM_arg hm]
    clear c1 c2 hL hP hnl hnp kW bW hm
    go_enter Try.func7, Try.ntmps7
    go_wp2_with first
      | (rw [hW])
      | (go_at_call 12; (with_reducible refine Calls.mono (C1.out _ (Below.refl _ _)) ?_); rintro e w1 ⟨rfl, rfl⟩)
    go_ret2
    exact ⟨⟨none, 0, [], rfl, rfl, Nat.le_refl _, RdLn.nil _ _ _⟩, HK.out.2⟩
end Go.Proofs.Ytkebffkekinblaa
/- Lines in pieces, as mathematics, more: what is drawn lies within the line's box; a pattern as long as the line draws it at once. No program is named here. -/

namespace Go.Proofs.Ytkebffkekinblaa
open Num

/-- within a box -/
def InP (lo hi q : Pt) : Prop := (lo.x ≤ q.x ∧ q.x ≤ hi.x) ∧ (lo.y ≤ q.y ∧ q.y ≤ hi.y)
def InL (lo hi : Pt) (l : List Pt) : Prop := ∀ q ∈ l, InP lo hi q
theorem lowTo_le (l : List Pt) : ∀ n i, i < n → (lowTo l n).x ≤ (l.getD i pt0).x ∧ (lowTo l n).y ≤ (l.getD i pt0).y
  | 0, _, h => absurd h (by omega)
  | n + 1, i, h => by
    simp only [lowTo, lowP]
    by_cases e : i = n
    · subst e
      omega
    · have := lowTo_le l n i (by omega)
      omega
theorem highTo_ge (l : List Pt) : ∀ n i, i < n → (l.getD i pt0).x ≤ (highTo l n).x ∧ (l.getD i pt0).y ≤ (highTo l n).y
  | 0, _, h => absurd h (by omega)
  | n + 1, i, h => by
    simp only [highTo, highP]
    by_cases e : i = n
    · subst e
      omega
    · have := highTo_ge l n i (by omega)
      omega
theorem box_all (l : List Pt) : InL (lowTo l l.length) (highTo l l.length) l := by
  intro q hq
  obtain ⟨i, hi, rfl⟩ := List.getElem_of_mem hq
  have h1 := lowTo_le l l.length i hi
  have h2 := highTo_ge l l.length i hi
  rw [getD_lt hi] at h1 h2
  exact ⟨⟨h1.1, h2.1⟩, h1.2, h2.2⟩
theorem near_between {d m k : Int} (hd : -16777214 ≤ d ∧ d ≤ 16777214) (hm : 0 ≤ m ∧ m ≤ k) (hk : 0 < k) (hk2 : k < 33554432) : min 0 d ≤ nearG (d * m) k ∧ nearG (d * m) k ≤ max 0 d := by
  have hb := mul_in (x := d) (y := m) (M := 16777214) (N := 33554432) (by omega) (by omega)
  rw [nearG_yes (by unfold NearOk; omega)]
  rcases Int.le_total 0 d with h | h
  · have h1 := Int.mul_nonneg h hm.1
    have h2 := Int.mul_nonneg h (show 0 ≤ k - m by omega)
    have e : d * (k - m) = d * k - d * m := by rw [Int.mul_sub]
    have h3 := nearQ_in (v := d * m) (d := k) (lo := 0) (hi := d) hk ⟨by omega, by omega⟩
    omega
  · have h1 := Int.mul_nonneg (show 0 ≤ -d by omega) hm.1
    have h2 := Int.mul_nonneg (show 0 ≤ -d by omega) (show 0 ≤ k - m by omega)
    have e : -d * (k - m) = -(d * k) + d * m := by grind
    have e2 : -d * m = -(d * m) := by grind
    have h3 := nearQ_in (v := d * m) (d := k) (lo := d) (hi := 0) hk ⟨by omega, by omega⟩
    omega
theorem ahead_in {lo hi a b : Pt} {m : Int} (ha : FitP a) (hb : FitP b) (ia : InP lo hi a) (ib : InP lo hi b) (hm : 0 ≤ m ∧ m ≤ (lenG a b : Int)) (hk : 0 < (lenG a b : Int)) : InP lo hi (aheadG a b m) := by
  have hl := lenG_lt a b
  have hd := diff_in ha hb
  have n1 := near_between hd.1 hm hk (by omega)
  have n2 := near_between hd.2 hm hk (by omega)
  unfold aheadG
  rw [if_pos ⟨by omega, by omega⟩]
  unfold leadG InP at *
  dsimp only
  omega
theorem walk_in {lo hi z : Pt} (hz : InP lo hi z) : ∀ (p : List Pt) (n : Int), FitL p → InL lo hi p → 0 ≤ n → InP lo hi (walkM z p n)
  | [], _, _, _, _ => hz
  | [a], _, _, _, _ => hz
  | a :: b :: r, n, hf, hi', hn => by
    show InP lo hi (if _ then _ else _)
    split
    · rename_i h
      exact ahead_in (hf a (by simp)) (hf b (by simp)) (hi' a (by simp)) (hi' b (by simp)) ⟨hn, h.2⟩ h.1
    · rename_i h
      exact walk_in hz (b :: r) _ (fun q hq => hf q (List.mem_cons_of_mem _ hq)) (fun q hq => hi' q (List.mem_cons_of_mem _ hq)) (by omega)
theorem ring_in {lo hi : Pt} {l : List Pt} {c : Bool} (h : InL lo hi l) : InL lo hi (ringP l c) := by
  intro q hq
  cases c
  · exact h q hq
  · rcases List.mem_append.1 hq with hq | hq
    · exact h q hq
    · exact h q (List.mem_of_mem_take hq)
theorem getD_in {lo hi : Pt} {l : List Pt} (h : InL lo hi l) {i : Nat} (hi' : i < l.length) : InP lo hi (l.getD i pt0) := by
  rw [getD_lt hi']
  exact h _ (List.getElem_mem hi')
theorem mids_in {lo hi : Pt} {p : List Pt} {a b : Int} (h : InL lo hi p) : ∀ i, i ≤ p.length → InL lo hi (midsTo p a b i)
  | 0, _ => by simp [midsTo, InL]
  | i + 1, hi' => by
    have ih := mids_in (a := a) (b := b) h i (by omega)
    unfold midsTo
    split
    · intro q hq
      rcases List.mem_append.1 hq with hq | hq
      · exact ih q hq
      · rw [List.mem_singleton] at hq
        subst hq
        exact getD_in h (by omega)
    · exact ih
theorem once_mem {l : List Pt} : ∀ i, i ≤ l.length → ∀ q ∈ onceTo l i, q ∈ l
  | 0, _, q, hq => by simp [onceTo] at hq
  | i + 1, hi, q, hq => by
    have ih := once_mem (l := l) i (by omega)
    unfold onceTo at hq
    split at hq
    · rcases List.mem_append.1 hq with hq | hq
      · exact ih q hq
      · rw [List.mem_singleton] at hq
        subst hq
        rw [getD_lt (by omega)]
        exact List.getElem_mem _
    · exact ih q hq
theorem piece_in {lo hi : Pt} {l : List Pt} {c : Bool} {a b : Int} (h : InL lo hi l) (ha : AtOk l c a) (hb : AtOk l c b) : InL lo hi (pieceP l c a b) := by
  have hr := ring_in (c := c) h
  have hf := fitL_ring (c := c).2 ha.2.1
  have hl := (ringP_le l c).1
  have h0 : 0 < (ringP l c).length := Nat.lt_of_lt_of_le ha.1 hl
  have hz := getD_in hr h0
  intro q hq
  have hm := once_mem (l := rawP l c a b) _ (Nat.le_refl _) q hq
  unfold rawP at hm
  rw [if_pos ha, if_pos hb] at hm
  rcases List.mem_append.1 hm with hm | hm
  · rcases List.mem_append.1 hm with hm | hm
    · rw [List.mem_singleton] at hm
      subst hm
      exact walk_in hz _ _ hf hr ha.2.2.1
    · exact mids_in hr _ (by omega) q hm
  · rw [List.mem_singleton] at hm
    subst hm
    exact walk_in hz _ _ hf hr hb.2.2.1
theorem piece_nil (c : Bool) (a b : Int) : (pieceP [] c a b).length = 1 := by
  have hn : ∀ n, ¬ AtOk [] c n := fun n h => by have := h.1; simp at this
  unfold pieceP rawP onceM
  rw [if_neg (hn a), if_neg (hn b), ringP_nil]
  rfl
/-- every line of what is drawn lies within -/
def InLs (lo hi : Pt) (o : List Ln) : Prop := ∀ x ∈ o, InL lo hi x.pts
theorem cutStep_in {lo hi : Pt} {l : List Pt} {c : Bool} {k : Nat} {at0 at1 : Int} {o : List Ln} (hf : FitL l) (h : InL lo hi l) (ho : InLs lo hi o) (h1 : at0 < longM l c) (h2 : 0 < at1) (h3 : 0 ≤ longM l c) : InLs lo hi (cutStep l c (longM l c) k at0 at1 o) := by
  unfold cutStep
  split
  · rename_i hk
    intro x hx
    rcases List.mem_append.1 hx with hx | hx
    · exact ho x hx
    · rw [List.mem_singleton] at hx
      subst hx
      have hl : 0 < l.length := by
        rcases Nat.eq_zero_or_pos l.length with h0 | h0
        · obtain rfl := List.eq_nil_of_length_eq_zero h0
          have := hk.2
          rw [piece_nil] at this
          omega
        · exact h0
      exact piece_in h ⟨hl, hf, by omega, by omega⟩ ⟨hl, hf, by omega, by omega⟩
  · exact ho
theorem cutGo_in {lo hi : Pt} {p : List Int} {l : List Pt} {c : Bool} (hf : FitL l) (h : InL lo hi l) (h3 : 0 ≤ longM l c) : ∀ (f k : Nat) (at0 : Int) (n : Nat) (o : List Ln), InLs lo hi o → InLs lo hi (cutGo p l c (longM l c) f k at0 n o).1
  | 0, _, _, _, o, ho => ho
  | f + 1, k, at0, n, o, ho => by
    unfold cutGo
    split
    · rename_i h1
      split
      · rename_i h2
        split
        · intro x hx; cases hx
        · exact cutGo_in hf h h3 f _ _ _ _ (cutStep_in hf h ho h1 h2 h3)
      · exact cutGo_in hf h h3 f _ _ _ _ ho
    · exact ho
theorem longM_pos (l : List Pt) (c : Bool) : 0 ≤ longM l c := by
  by_cases hf : FitL l
  · rw [longM_ring hf]
    exact (chainTo_in _ _).1
  · rw [longM_no hf]; exact Int.le_refl _
theorem cutM_in (l : List Pt) (c : Bool) (P : List Int) (h : Int) : InLs (lowTo l l.length) (highTo l l.length) (cutM l c P h).1 := by
  unfold cutM
  split
  · intro x hx; cases hx
  · split
    · intro x hx; cases hx
    · rename_i hf
      have hf' : FitL l := Classical.byContradiction hf
      split
      · intro x hx
        rw [List.mem_singleton] at hx
        subst hx
        exact box_all l
      · exact cutGo_in hf' (box_all l) (longM_pos l c) _ _ _ _ _ (fun x hx => by cases hx)
/-- where it went wrong nothing is drawn -/
theorem cutGo_err {p : List Int} {l : List Pt} {c : Bool} {e : Int} : ∀ (f k : Nat) (at0 : Int) (n : Nat) (o : List Ln), (cutGo p l c e f k at0 n o).2 ≠ 0 → (cutGo p l c e f k at0 n o).1 = []
  | 0, _, _, _, o, h => absurd rfl h
  | f + 1, k, at0, n, o, h => by
    unfold cutGo at h ⊢
    split at h
    · rename_i h1
      rw [if_pos h1]
      split at h
      · rename_i h2
        rw [if_pos h2]
        split at h
        · rename_i h3
          rw [if_pos h3]
        · rename_i h3
          rw [if_neg h3]
          exact cutGo_err f _ _ _ _ h
      · rename_i h2
        rw [if_neg h2]
        exact cutGo_err f _ _ _ _ h
    · exact absurd rfl h
theorem cutM_err (l : List Pt) (c : Bool) (P : List Int) (h : Int) (he : (cutM l c P h).2 ≠ 0) : (cutM l c P h).1 = [] := by
  unfold cutM at he ⊢
  split at he
  · rename_i h1
    rw [if_pos h1]
  · rename_i h1
    rw [if_neg h1]
    split at he
    · rename_i h2
      rw [if_pos h2]
    · rename_i h2
      rw [if_neg h2]
      split at he
      · exact absurd rfl he
      · rename_i h3
        rw [if_neg h3]
        exact cutGo_err _ _ _ _ _ he
/-- a pattern of one length, as long as the line -/
theorem cutM_whole {l : List Pt} {c : Bool} (hf : FitL l) (h1 : 1 ≤ longM l c ∧ longM l c ≤ 8388607) : (cutM l c [longM l c] 0).2 = 0 ∧ (cutM l c [longM l c] 0).1.length ≤ 1 := by
  have hm : MayD [longM l c] 0 := ⟨by simp, by omega, fun x hx => by rw [List.mem_singleton] at hx; subst hx; exact h1⟩
  generalize hn : longM l c = n at *
  unfold cutM
  rw [if_neg (fun k => k hm), if_neg (fun k => k hf), if_neg (by simp)]
  have e1 : pattP [n] = [n, n] := rfl
  have e2 : -((0 : Int) % totalP [n]) = 0 := by simp
  rw [e1, e2, hn]
  have g0 : ([n, n] : List Int).getD (0 % ([n, n] : List Int).length) 0 = n := rfl
  have s1 : cutGo [n, n] l c n 2000 0 0 0 [] = cutGo [n, n] l c n 1999 1 n 1 (cutStep l c n 0 0 n []) := by
    show (if _ then _ else _) = _
    rw [if_pos (by omega), g0, Int.zero_add, if_pos (by omega), if_neg (by omega)]
  have s2 : cutGo [n, n] l c n 1999 1 n 1 (cutStep l c n 0 0 n []) = (cutStep l c n 0 0 n [], 0) := by
    show (if _ then _ else _) = _
    rw [if_neg (by omega)]
  rw [s1, s2]
  refine ⟨rfl, ?_⟩
  unfold cutStep
  split <;> simp
/-- how many lines they are, and of how many points -/
def SmallLs (m : Nat) (o : List Ln) : Prop := ∀ x ∈ o, x.pts.length ≤ m
theorem cutStep_small {l : List Pt} {c : Bool} {e : Int} {k : Nat} {at0 at1 : Int} {o : List Ln} (ho : SmallLs (l.length + 2) o) : SmallLs (l.length + 2) (cutStep l c e k at0 at1 o) ∧ (cutStep l c e k at0 at1 o).length ≤ o.length + 1 := by
  unfold cutStep
  split
  · refine ⟨fun x hx => ?_, by simp⟩
    rcases List.mem_append.1 hx with hx | hx
    · exact ho x hx
    · rw [List.mem_singleton] at hx
      subst hx
      exact pieceP_le _ _ _ _
  · exact ⟨ho, by omega⟩
theorem cutGo_small {p : List Int} {l : List Pt} {c : Bool} {e : Int} : ∀ (f k : Nat) (at0 : Int) (n : Nat) (o : List Ln), SmallLs (l.length + 2) o → SmallLs (l.length + 2) (cutGo p l c e f k at0 n o).1 ∧ (cutGo p l c e f k at0 n o).1.length ≤ o.length + f
  | 0, _, _, _, o, ho => ⟨ho, Nat.le_refl _⟩
  | f + 1, k, at0, n, o, ho => by
    unfold cutGo
    split
    · split
      · split
        · exact ⟨fun x hx => (by cases hx), Nat.zero_le _⟩
        · have h1 := cutStep_small (c := c) (e := e) (k := k) (at0 := at0) (at1 := at0 + p.getD (k % p.length) 0) ho
          have h2 := cutGo_small (p := p) (c := c) (e := e) f (k + 1) (at0 + p.getD (k % p.length) 0) (n + 1) _ h1.1
          exact ⟨h2.1, by omega⟩
      · have h2 := cutGo_small (p := p) (c := c) (e := e) f (k + 1) (at0 + p.getD (k % p.length) 0) n _ ho
        exact ⟨h2.1, by omega⟩
    · exact ⟨ho, by simp⟩
theorem cutM_small (l : List Pt) (c : Bool) (P : List Int) (h : Int) : SmallLs (l.length + 2) (cutM l c P h).1 ∧ (cutM l c P h).1.length ≤ 2000 := by
  unfold cutM
  split
  · exact ⟨fun x hx => (by cases hx), Nat.zero_le _⟩
  · split
    · exact ⟨fun x hx => (by cases hx), Nat.zero_le _⟩
    · split
      · refine ⟨fun x hx => ?_, by simp⟩
        rw [List.mem_singleton] at hx
        subst hx
        show l.length ≤ _
        omega
      · have := cutGo_small (l := l) (p := pattP P) (c := c) (e := longM l c) 2000 0 (-(h % totalP P)) 0 [] (fun x hx => (by cases hx))
        exact ⟨this.1, by simpa using this.2⟩
end Go.Proofs.Ytkebffkekinblaa
