/- Paths, the document's own: Trace. -/
import Derived.Test.YtbgjpmijegeeiaaZPtY
import Derived.Deep.RegionHeld3
namespace Go.Proofs.Ytbgjpmijegeeiaa
open Go.RowKit

/-- the state of the walk: what has been made of lines, what stands of the next one -/
def TrSt (w wr : World) (ov nv : Value) (V : List Lv) (now : List Pt) (wo : World) : Prop :=
  OwnLn wo w.heap.size ov V ∧ Below w.heap.size w wo ∧ wr.ownsRow wo.heap.size 42 2 nv now.length (ptRow now) ∧ Below wo.heap.size wo wr ∧ FitL now

set_option maxRecDepth 10000 in
set_option maxHeartbeats 12800000 in
theorem ref12_Trace (L : List St) (A : Option Addr) (c : Nat) (w : World) (hL : RdV w w.heap.size A (stRow L)) (hl : L.length ≤ 4611686018427387904) :
    Calls Try.prog 7 #[.slice A L.length c] w (GivesLn (traceM L) (checkM L) w) := by
  have cC := ref12_Check L A c w hL hl
  obtain ⟨n, hn⟩ : ∃ n, L.length = n := ⟨_, rfl⟩
  have HN := Lib.hid hn
  have HL := Lib.hid hL
  obtain ⟨i0, hi0, hz0, hz1, hz2⟩ := info_parts info_pt
  obtain ⟨j0, hj0, hy0, hy1, hy2⟩ := info_parts info_ln
  obtain ⟨E, hE⟩ : ∃ E, checkM L = E := ⟨_, rfl⟩
  obtain ⟨T, hT⟩ : ∃ T, traceM L = T := ⟨_, rfl⟩
  rw [hn, hE] at cC
  rw [hn, hE, hT]
  have CC := Lib.hid cC
  by_cases hz : E = 0
  · subst hz
    have h200 : n ≤ 200 := by
      rw [← hn]
      unfold checkM at hE
      split at hE
      · omega
      · omega
    have HG := Lib.hid (show checkGo (prevAt L 0) (L.drop 0) = 0 by
      unfold checkM at hE
      split at hE
      · omega
      · exact hE)
    have HT := Lib.hid (show Lv.all [] ++ traceGo [] (L.drop 0) = T by rw [← hT]; unfold traceM; rw [if_pos hE]; rfl)
    clear cC hn hL hE hT
    go_enter Try.func7, Try.ntmps7
    go_wp2_with (go_at_call 20; (with_reducible refine Calls.mono CC.out ?_); rintro e w1 ⟨rfl, b1⟩)
    go_loopg [5, 6, 7] (n + 1) (fun gh ov nv iv wr => ∃ (i : Nat) (V : List Lv) (now : List Pt) (wo : World), iv = .int .i64 (i : Int) ∧ gh + i = n + 1 ∧ TrSt w wr ov nv V now wo ∧ now.length ≤ 32 * i ∧ V.length ≤ i ∧
      ((i ≤ n ∧ checkGo (prevAt L i) (L.drop i) = 0 ∧ Lv.all V ++ traceGo now (L.drop i) = T ∧ ∀ o, prevAt L i = some o → o ≠ 5 → now ≠ []) ∨ (i = n + 1 ∧ Lv.all V = T)))
    case atStart => exact ⟨0, [], [], w1, rfl, by omega, ⟨OwnLn.nil _ _, b1, World.ownsRow_nil _ _ _ _, Below.refl _ _, fun p hp => by simp at hp⟩, by simp, by simp, .inl ⟨by omega, HG.out, HT.out, (fun o h => by cases h)⟩⟩
    case round =>
      obtain ⟨i, V, now, wo, rfl, hg, hst, hnow, hVl, hor⟩ := hrel
      have HGI := Lib.hid hg
      by_cases hlt : i ≤ n
      · obtain ⟨-, hchk, htr, hnn⟩ : i ≤ n ∧ checkGo (prevAt L i) (L.drop i) = 0 ∧ Lv.all V ++ traceGo now (L.drop i) = T ∧ ∀ o, prevAt L i = some o → o ≠ 5 → now ≠ [] := by
          rcases hor with h | h
          · exact h
          · omega
        have hil : (i : Int) ≤ (n : Int) := by omega
        have hst' := hst
        obtain ⟨hV, hBo, hown, hBr, hfit⟩ := hst'
        obtain ⟨A6, c6, rfl, -, -, hrn⟩ := RdV.ofOwnK hown
        obtain ⟨nl, hnl⟩ : ∃ nl, now.length = nl := ⟨_, rfl⟩
        have HRN := Lib.hid hrn
        have HBW := Lib.hid (hBo.trans (hBr.mono hBo.size))
        have HO := Lib.hid (And.intro (hV.kept (show Below wo.heap.size wo wr from hBr)) (And.intro HBW.out hst))
        clear hV hBo hown hBr hst hor hrn
        obtain ⟨s, hs⟩ : ∃ s, L.getD i st0 = s := ⟨_, rfl⟩
        have HSS := Lib.hid hs
        have HCK := Lib.hid hchk
        have htr' : i < n → Lv.all V ++ ((if s.op = 1 ∨ s.op = 5 then flushM now (decide (s.op = 5)) else []) ++ traceGo (nowM now s ++ pointsM (lastP (nowM now s)) s) (L.drop (i + 1))) = T := fun h => by
          have h1 : i < L.length := by rw [HN.out]; exact h
          have h2 : L[i] = s := by rw [← hs]; simp [List.getD, h1]
          rw [← htr, traceGo_step h1, h2]
        have htr0 : i = n → Lv.all V ++ flushM now false = T := fun h => by
          have h1 := traceGo_end now L
          rw [HN.out, ← h] at h1
          rw [← htr, h1]
        have hop : i < n → ∃ b o, A = some ⟨b, o, none⟩ ∧ ∀ U, Below w.heap.size w U → U.cell? ⟨b, o + i * 7, none⟩ = some (.int .i64 s.op) := fun h => by
          have h1 : i < L.length := by rw [HN.out]; exact h
          have h2 : L[i] = s := by rw [← hs]; simp [List.getD, h1]
          obtain ⟨b, o, e, -, -⟩ := HL.out.st h1
          refine ⟨b, o, e, fun U hU => ?_⟩
          obtain ⟨b', o', e', -, e0, -⟩ := (HL.out.below hU).st h1
          rw [e] at e'
          cases e'
          rw [h2] at e0
          exact e0
        have hops : i < n → s.op = 1 ∨ s.op = 2 ∨ s.op = 3 ∨ s.op = 4 ∨ s.op = 5 := fun h => by
          have h1 : i < L.length := by rw [HN.out]; exact h
          have h2 : L[i] = s := by rw [← hs]; simp [List.getD, h1]
          have h3 := checkGo_step h1
          rw [hchk, h2] at h3
          by_cases hb : badM (prevAt L i) s = 0
          · exact (badM_zero hb).1
          · rw [if_neg hb] at h3; exact absurd h3.symm hb
        have HTR1 := Lib.hid htr'
        have HNN := Lib.hid hnn
        have HTR0 := Lib.hid htr0
        have HOPC := Lib.hid hop
        have HOPS := Lib.hid hops
        have hnl33 : nl ≤ 32 * i := by omega
        clear htr htr' htr0 hop hops hchk hs hnn
        by_cases hin : i = n
        · subst hin
          have HTR := Lib.hid (HTR0.out rfl)
          clear HTR0 HTR1 HOPC HOPS
          obtain ⟨m2, hm2⟩ : ∃ m2, (lineM now false).length = m2 := ⟨_, rfl⟩
          have HM2 := Lib.hid hm2
          have CLfalse := Lib.hid (fun U (hU : Below wr.heap.size wr U) => by
            have h := ref12_line now A6 c6 false U (HRN.out.on hU) (by omega)
            rw [hm2, hnl] at h
            exact h)
          by_cases hok : 1 < m2
          · have hfl : flushM now false = [⟨lineM now false, false⟩] := by unfold flushM; rw [if_pos (by rw [hm2]; exact hok)]
            rw [decide_eq_true hok] at CLfalse
            have HFL := Lib.hid hfl
            clear hm2 hfl
            go_wp2_with first
              | (go_at_call 21; (with_reducible refine Calls.mono (CLfalse.out _ (Below.refl _ _)) ?_); rintro e w2 ⟨⟨v2, rfl, own2⟩, b2⟩; obtain ⟨p2, k2, rfl, -, -, -⟩ := RdV.ofOwnK own2; obtain ⟨W2, hW2, kW2, bW2⟩ := endP w2 57 (.slice none 0 0) (.bool false); obtain ⟨⟨y0, y1⟩, z2, z3⟩ := Box.pair kW2; obtain ⟨W3, hW3, kW3, ⟨z0, z1⟩, bU3⟩ := kW2.stored2 (.slice p2 m2 k2) (.bool false); have bW3 := bW2.trans (bU3 w2.heap.size (Nat.le_refl _)); have b3 := b2.trans (bW3.mono b2.size); have H3 := Lib.hid (And.intro (HO.out.1.kept b3) (And.intro (own_below own2 bW3) (HO.out.2.1.trans (b3.mono HO.out.2.1.size)))); clear own2 b2 bW2 bU3 bW3 b3 kW2 kW3)
              | (rw [hW2])
              | (rw [hW3])
              | (at_builtin; refine wpList_append_own _ rfl _ _ 23 rfl w.heap.size 57 j0 (.agg #[.slice none 0 0, .bool false]) 2 32 Try.underlying23 hj0 hy0 hy1 hy2 rfl (by decide) _ V.length _ rfl (H3.out.1.1.alloc _) ⟨W3.heap.size, 0, none⟩ 1 1 [.slice p2 m2 k2, .bool false] rfl rfl (two_new _ _ _ _) (by simp [Value.oneCell']) (by unfold maxLen; omega) (by omega) (by have h1 := H3.out.2.2.size; simp; omega) ?_; intro v4 w4 hown4 hgrow4 _; replace hown4 := Lib.hid hown4; replace hgrow4 := Lib.hid hgrow4)
            have hV4 : OwnLn w4 w.heap.size v4 (V ++ [⟨p2, k2, lineM now false, false⟩]) := by
              refine (H3.out.1.kept (below_new W3 _)).snoc (x := ⟨p2, k2, lineM now false, false⟩) ?_ hgrow4.out ?_
              · show (W3.alloc _).ownsRow w.heap.size 42 2 (.slice p2 (lineM now false).length k2) (lineM now false).length (ptRow (lineM now false))
                have h := H3.out.2.1
                rw [← HM2.out] at h
                exact own_below (own_mono h HBW.out.size) (below_new W3 _)
              · have h := hown4.out
                rw [← HM2.out] at h
                exact h
            have hB4 := below_grow2 ((H3.out.2.2).alloc H3.out.2.2.size (.cells #[.slice p2 m2 k2, .bool false] 57)) (H3.out.1.1.alloc _) (by have h1 := H3.out.2.2.size; simp; omega) hgrow4.out
            have HV4 := Lib.hid (And.intro hV4 hB4)
            clear hV4 hB4
            go_roundg (i - i)
            case measure => have := HGI.out; omega
            case rel => exact ⟨i + 1, _, [], w4, by simp, by omega, ⟨HV4.out.1, HV4.out.2, World.ownsRow_nil _ _ _ _, Below.refl _ _, fun p hp => by simp at hp⟩, by simp, by rw [List.length_append]; simp; omega, .inr ⟨rfl, by rw [Lv.all_snoc, ← HTR.out, HFL.out]; rfl⟩⟩
          · have hfl : flushM now false = [] := by unfold flushM; rw [if_neg (by rw [hm2]; exact hok)]
            rw [decide_eq_false hok] at CLfalse
            have HFL := Lib.hid hfl
            clear hm2 hfl
            go_wp2_with first
              | (go_at_call 21; (with_reducible refine Calls.mono (CLfalse.out _ (Below.refl _ _)) ?_); rintro e w2 ⟨⟨v2, rfl, own2⟩, b2⟩; obtain ⟨p2, k2, rfl, -, -, -⟩ := RdV.ofOwnK own2; obtain ⟨W2, hW2, kW2, bW2⟩ := endP w2 57 (.slice none 0 0) (.bool false); obtain ⟨⟨y0, y1⟩, z2, z3⟩ := Box.pair kW2; obtain ⟨W3, hW3, kW3, ⟨z0, z1⟩, bU3⟩ := kW2.stored2 (.slice p2 m2 k2) (.bool false); have bW3 := bW2.trans (bU3 w2.heap.size (Nat.le_refl _)); have b3 := b2.trans (bW3.mono b2.size); have H3 := Lib.hid (And.intro (HO.out.1.kept b3) (And.intro (own_below own2 bW3) (HO.out.2.1.trans (b3.mono HO.out.2.1.size)))); clear own2 b2 bW2 bU3 bW3 b3 kW2 kW3)
              | (rw [hW2])
              | (rw [hW3])
            try rw [hW3]
            go_roundg (i - i)
            case measure => have := HGI.out; omega
            case rel => exact ⟨i + 1, V, [], W3, by simp, by omega, ⟨H3.out.1, H3.out.2.2, World.ownsRow_nil _ _ _ _, Below.refl _ _, fun p hp => by simp at hp⟩, by simp, by omega, .inr ⟨rfl, by rw [← HTR.out, HFL.out]; simp⟩⟩
        · have hlt2 : i < n := by omega
          obtain ⟨b, o, rfl, hcell⟩ := HOPC.out hlt2
          have e0 := hcell wr HBW.out
          have hcc := Lib.hid hcell
          have htr := HTR1.out hlt2
          have hne : ((i : Int) == (n : Int)) = false := by simp; omega
          have hil2 : (i : Int) < (n : Int) := by omega
          clear hcell hin
          by_cases h1 : s.op = 1
          · have HTR := Lib.hid (show Lv.all V ++ (flushM now false ++ traceGo ([] ++ pointsM (lastP []) s) (L.drop (i + 1))) = T by
              have h := htr
              rw [if_pos (by omega), show decide (s.op = 5) = false by rw [h1]; rfl, show nowM now s = [] by unfold nowM; rw [if_pos (by omega)]] at h
              exact h)
            have HNM := Lib.hid (show nowM now s = [] by unfold nowM; rw [if_pos (by omega)])
            rw [h1] at e0
            clear htr
            go_upto_if 41 with fail
            go_cut [5, 6, 8, 9] from 16 to 85 (fun v5 v6 v8 v9 wc => ∃ (V' : List Lv) (now' : List Pt) (wo' : World), OwnLn wo' w.heap.size v5 V' ∧ Below w.heap.size w wo' ∧ wc.ownsRow wo'.heap.size 42 2 v6 now'.length (ptRow now') ∧ Below wo'.heap.size wo' wc ∧ FitL now' ∧ now'.length ≤ 32 * i ∧ V'.length ≤ i + 1 ∧ now' = nowM now s ∧ Lv.all V' ++ traceGo (now' ++ pointsM (lastP now') s) (L.drop (i + 1)) = T)
            case first =>
              obtain ⟨m2, hm2⟩ : ∃ m2, (lineM now false).length = m2 := ⟨_, rfl⟩
              have HM2 := Lib.hid hm2
              have CLfalse := Lib.hid (fun U (hU : Below wr.heap.size wr U) => by
                have h := ref12_line now A6 c6 false U (HRN.out.on hU) (by omega)
                rw [hm2, hnl] at h
                exact h)
              by_cases hok : 1 < m2
              · have hfl : flushM now false = [⟨lineM now false, false⟩] := by unfold flushM; rw [if_pos (by rw [hm2]; exact hok)]
                rw [decide_eq_true hok] at CLfalse
                have HFL := Lib.hid hfl
                clear hm2 hfl
                go_wp2_with first
                  | (go_at_call 21; (with_reducible refine Calls.mono (CLfalse.out _ (Below.refl _ _)) ?_); rintro e w2 ⟨⟨v2, rfl, own2⟩, b2⟩; obtain ⟨p2, k2, rfl, -, -, -⟩ := RdV.ofOwnK own2; obtain ⟨W2, hW2, kW2, bW2⟩ := endP w2 57 (.slice none 0 0) (.bool false); obtain ⟨⟨y0, y1⟩, z2, z3⟩ := Box.pair kW2; obtain ⟨W3, hW3, kW3, ⟨z0, z1⟩, bU3⟩ := kW2.stored2 (.slice p2 m2 k2) (.bool false); have bW3 := bW2.trans (bU3 w2.heap.size (Nat.le_refl _)); have b3 := b2.trans (bW3.mono b2.size); have H3 := Lib.hid (And.intro (HO.out.1.kept b3) (And.intro (own_below own2 bW3) (HO.out.2.1.trans (b3.mono HO.out.2.1.size)))); clear own2 b2 bW2 bU3 bW3 b3 kW2 kW3)
                  | (rw [hW2])
                  | (rw [hW3])
                  | (at_builtin; refine wpList_append_own _ rfl _ _ 23 rfl w.heap.size 57 j0 (.agg #[.slice none 0 0, .bool false]) 2 32 Try.underlying23 hj0 hy0 hy1 hy2 rfl (by decide) _ V.length _ rfl (H3.out.1.1.alloc _) ⟨W3.heap.size, 0, none⟩ 1 1 [.slice p2 m2 k2, .bool false] rfl rfl (two_new _ _ _ _) (by simp [Value.oneCell']) (by unfold maxLen; omega) (by omega) (by have h1 := H3.out.2.2.size; simp; omega) ?_; intro v4 w4 hown4 hgrow4 _; replace hown4 := Lib.hid hown4; replace hgrow4 := Lib.hid hgrow4)
                have hV4 : OwnLn w4 w.heap.size v4 (V ++ [⟨p2, k2, lineM now false, false⟩]) := by
                  refine (H3.out.1.kept (below_new W3 _)).snoc (x := ⟨p2, k2, lineM now false, false⟩) ?_ hgrow4.out ?_
                  · show (W3.alloc _).ownsRow w.heap.size 42 2 (.slice p2 (lineM now false).length k2) (lineM now false).length (ptRow (lineM now false))
                    have h := H3.out.2.1
                    rw [← HM2.out] at h
                    exact own_below (own_mono h HBW.out.size) (below_new W3 _)
                  · have h := hown4.out
                    rw [← HM2.out] at h
                    exact h
                have hB4 := below_grow2 ((H3.out.2.2).alloc H3.out.2.2.size (.cells #[.slice p2 m2 k2, .bool false] 57)) (H3.out.1.1.alloc _) (by have h1 := H3.out.2.2.size; simp; omega) hgrow4.out
                have HV4 := Lib.hid (And.intro hV4 hB4)
                clear hV4 hB4
                go_meet
                exact ⟨_, [], w4, HV4.out.1, HV4.out.2, World.ownsRow_nil _ _ _ _, Below.refl _ _, fun p hp => by simp at hp, by simp, by rw [List.length_append]; simp; omega, HNM.out.symm, by have h := HTR.out; rw [HFL.out] at h; rw [Lv.all_snoc, List.append_assoc]; exact h⟩
              · have hfl : flushM now false = [] := by unfold flushM; rw [if_neg (by rw [hm2]; exact hok)]
                rw [decide_eq_false hok] at CLfalse
                have HFL := Lib.hid hfl
                clear hm2 hfl
                go_wp2_with first
                  | (go_at_call 21; (with_reducible refine Calls.mono (CLfalse.out _ (Below.refl _ _)) ?_); rintro e w2 ⟨⟨v2, rfl, own2⟩, b2⟩; obtain ⟨p2, k2, rfl, -, -, -⟩ := RdV.ofOwnK own2; obtain ⟨W2, hW2, kW2, bW2⟩ := endP w2 57 (.slice none 0 0) (.bool false); obtain ⟨⟨y0, y1⟩, z2, z3⟩ := Box.pair kW2; obtain ⟨W3, hW3, kW3, ⟨z0, z1⟩, bU3⟩ := kW2.stored2 (.slice p2 m2 k2) (.bool false); have bW3 := bW2.trans (bU3 w2.heap.size (Nat.le_refl _)); have b3 := b2.trans (bW3.mono b2.size); have H3 := Lib.hid (And.intro (HO.out.1.kept b3) (And.intro (own_below own2 bW3) (HO.out.2.1.trans (b3.mono HO.out.2.1.size)))); clear own2 b2 bW2 bU3 bW3 b3 kW2 kW3)
                  | (rw [hW2])
                  | (rw [hW3])
                try rw [hW3]
                go_meet
                exact ⟨V, [], W3, H3.out.1, H3.out.2.2, World.ownsRow_nil _ _ _ _, Below.refl _ _, fun p hp => by simp at hp, by simp, by omega, HNM.out.symm, by have h := HTR.out; rw [HFL.out] at h; simpa using h⟩
            case rest =>
              obtain ⟨V', N', wo', hV, hBo, hown, hBr, hfit2, hlen2, hVl2, hnm2, htr2⟩ := hcut
              obtain ⟨A7, c7, rfl, -, -, hrn7⟩ := RdV.ofOwnK hown
              have hi2 : i < L.length := by rw [HN.out]; exact hlt2
              have hsl : L[i] = s := by rw [← HSS.out]; simp [List.getD, hi2]
              have hst := checkGo_step hi2
              rw [HCK.out, hsl] at hst
              have hbad : badM (prevAt L i) s = 0 := by
                by_cases hb : badM (prevAt L i) s = 0
                · exact hb
                · rw [if_neg hb] at hst; exact absurd hst.symm hb
              rw [if_pos hbad] at hst
              have HNX := Lib.hid hst.symm
              have HBC := Lib.hid (hBo.trans (hBr.mono hBo.size))
              obtain ⟨b', o', e', hb', d0, d1, d2, d3, d4, d5, d6⟩ := (HL.out.below HBC.out).st hi2
              cases e'
              rw [hsl] at d0 d1 d2 d3 d4 d5 d6
              have HSC := Lib.hid (fun X (hX : Below wo'.heap.size wo' X) => by have h := (HL.out.below (hBo.trans (hX.mono hBo.size))).st hi2; rw [hsl] at h; exact h)
              have hN0 : N' = [] := by rw [hnm2]; exact HNM.out
              subst hN0
              obtain ⟨p, hpp⟩ : ∃ p : Pt, p = ⟨0, 0⟩ := ⟨_, rfl⟩
              have hp : lastP ([] : List Pt) = p := by rw [hpp]; rfl
              have hfp : FitP p := by rw [← hp]; exact hfit2.getD _
              rw [hp] at htr2
              obtain ⟨f3, f4, fl, f5⟩ := step_fits hbad hfp
              have cP := fun U => ref12_Points p s f3 f4 U
              have hle := pointsM_le p s
              generalize pointsM p s = P at cP f5 fl hle htr2
              clear hst hbad f3 f4 hnm2
              obtain ⟨op, q0, q1, q2⟩ := s
              dsimp only at h1; subst h1
              have h15 : ¬ (1 : Int) = 5 := by omega
              obtain ⟨px, py⟩ := p
              cases hpp
              unfold ptV stV GivesPts at cP
              dsimp only at d0 d1 d2 d3 d4 d5 d6 cP f5
              obtain ⟨m, hm⟩ : ∃ m, P.length = m := ⟨_, rfl⟩
              have HM := Lib.hid hm
              rw [hm] at hle
              simp only [hm] at cP
              have CP := Lib.hid cP
              obtain ⟨W, hW, kW, bW⟩ := endP wc 42 (.int .i64 0) (.int .i64 0)
              have hb2 := Nat.lt_of_lt_of_le hb' HBC.out.size
              obtain ⟨⟨y0, y1⟩, y2, y3⟩ := Box.pair kW
              obtain ⟨U, hU, kU, ⟨u0, u1⟩, bU⟩ := kW.stored2 (.int .i64 0) (.int .i64 0)
              have bWU := bW.trans (bU wc.heap.size (Nat.le_refl _))
              have HO2 := Lib.hid (And.intro hV (And.intro hBo (And.intro hown (And.intro hBr (And.intro bWU kU)))))
              have g0 := (bWU.cell (p := ⟨b, o + i * 7, none⟩) hb2).trans d0
              have g1 := (bWU.cell (p := ⟨b, o + i * 7 + 1, none⟩) hb2).trans d1
              have g2 := (bWU.cell (p := ⟨b, o + i * 7 + 2, none⟩) hb2).trans d2
              have g3 := (bWU.cell (p := ⟨b, o + i * 7 + 3, none⟩) hb2).trans d3
              have g4 := (bWU.cell (p := ⟨b, o + i * 7 + 4, none⟩) hb2).trans d4
              have g5 := (bWU.cell (p := ⟨b, o + i * 7 + 5, none⟩) hb2).trans d5
              have g6 := (bWU.cell (p := ⟨b, o + i * 7 + 6, none⟩) hb2).trans d6
              have HF := Lib.hid (And.intro hfit2 fl)
              have H5 := Lib.hid f5
              have HTT := Lib.hid htr2
              clear d0 d1 d2 d3 d4 d5 d6 hV hBo hown hBr bW bWU kW bU kU hfit2 fl f5 htr2 hb' hp hm cP hrn7 hsl
              go_wp2_with first
                | (rw [hW])
              try rw [hU]
              have HCS := Lib.hid (fun X (h : KeepG wo' U wc.heap.size X) => show (X.cell? ⟨wc.heap.size, 0, none⟩ = some (.int .i64 0) ∧ X.cell? ⟨wc.heap.size, 1, none⟩ = some (.int .i64 0) ∧ X.cell? ⟨b, o + i * 7, none⟩ = some (.int .i64 1) ∧ X.cell? ⟨b, o + i * 7 + 1, none⟩ = some (.int .i64 q0.x) ∧ X.cell? ⟨b, o + i * 7 + 2, none⟩ = some (.int .i64 q0.y) ∧ X.cell? ⟨b, o + i * 7 + 3, none⟩ = some (.int .i64 q1.x) ∧ X.cell? ⟨b, o + i * 7 + 4, none⟩ = some (.int .i64 q1.y) ∧ X.cell? ⟨b, o + i * 7 + 5, none⟩ = some (.int .i64 q2.x) ∧ X.cell? ⟨b, o + i * 7 + 6, none⟩ = some (.int .i64 q2.y)) ∧ KeepG wo' U wc.heap.size X from by
                have k : Box X wc.heap.size 42 [.int .i64 0, .int .i64 0] := h.2.2.symm.trans HO2.out.2.2.2.2.2
                obtain ⟨b', o', e', -, d0, d1, d2, d3, d4, d5, d6⟩ := HSC.out X h.1
                cases e'
                exact ⟨⟨(Box.pair k).1.1, (Box.pair k).1.2, d0, d1, d2, d3, d4, d5, d6⟩, h⟩)
              have G0 := Lib.hid (show KeepG wo' U wc.heap.size U.drew from ⟨(HO2.out.2.2.2.1.trans (HO2.out.2.2.2.2.1.mono HO2.out.2.2.2.1.size)).drew, HO2.out.2.2.2.2.2.lt, rfl⟩)
              have HH := Lib.hid (HCS.out U.drew G0.out)
              have HVU := Lib.hid (show U.drew.ownsRow wo'.heap.size 42 2 (.slice A7 0 c7) 0 (ptRow ([] : List Pt)) from own_below HO2.out.2.2.1 HO2.out.2.2.2.2.1.drew)
              have hm0 : 0 < m := by
                rw [← HM.out]
                exact List.length_pos_iff.2 fun e => h15 (H5.out.1 e)
              have hxm : 0 + m ≤ maxLen := by unfold maxLen; omega
              have hxb : (0 + m) * 16 ≤ 140737488355328 := by omega
              go_region_held3 (fun w' => (w'.cell? ⟨wc.heap.size, 0, none⟩ = some (.int .i64 0) ∧ w'.cell? ⟨wc.heap.size, 1, none⟩ = some (.int .i64 0) ∧ w'.cell? ⟨b, o + i * 7, none⟩ = some (.int .i64 1) ∧ w'.cell? ⟨b, o + i * 7 + 1, none⟩ = some (.int .i64 q0.x) ∧ w'.cell? ⟨b, o + i * 7 + 2, none⟩ = some (.int .i64 q0.y) ∧ w'.cell? ⟨b, o + i * 7 + 3, none⟩ = some (.int .i64 q1.x) ∧ w'.cell? ⟨b, o + i * 7 + 4, none⟩ = some (.int .i64 q1.y) ∧ w'.cell? ⟨b, o + i * 7 + 5, none⟩ = some (.int .i64 q2.x) ∧ w'.cell? ⟨b, o + i * 7 + 6, none⟩ = some (.int .i64 q2.y)) ∧ KeepG wo' U wc.heap.size w')
                (first
                  | (with_reducible exact HH.out)
                  | (with_reducible exact HCS.out _ G1.out)
                  | (with_reducible exact HCS.out _ G2.out))
                ((first
                  | (go_at_call 22; (with_reducible refine Calls.mono (CP.out _) ?_); rintro e w2 ⟨⟨q, k, rfl, -, r2⟩, b2⟩
                     obtain ⟨ga, oa, rfl, -, hc⟩ := r2 (by rw [ptRow_length, HM.out]; omega)
                     have G1 := Lib.hid (G0.out.on b2)
                     have HV6 := Lib.hid (own_below HVU.out b2)
                     have HNS := Lib.hid (row_news hc)
                     clear r2 b2 hc)
                  | (refine step_append_lies _ (by rfl) _ _ _ (by rfl) wo'.heap.size 42 i0 (.agg #[.int .i64 0, .int .i64 0]) 2 16 Try.underlying47 hi0 hz0 hz1 hz2 rfl (by omega) _ 0 (ptRow ([] : List Pt)) (by rfl) HV6.out ⟨ga, oa, none⟩ m k (ptRow P) (by rfl) (by rw [ptRow_length, HM.out]) HNS.out (one_ptRow P) hm0 hxm hxb (G1.out.1.size) w2.heap.size (by rfl) ?_; intro gg cap w8 hown8 hgrow8 hor8 hlt8
                     have HW8 := Lib.hid hown8
                     have G2 := Lib.hid (G1.out.grown hgrow8 HV6.out HO2.out.2.2.1 (Nat.le_refl _) (Nat.le_refl _))
                     clear hown8 hgrow8 hor8 hlt8)))
              have HV8 := Lib.hid (show w8.ownsRow wo'.heap.size 42 2 (.slice (some ⟨gg, 0, none⟩) m cap) ([] ++ P).length (ptRow ([] ++ P)) from by
                have h := HW8.out
                rw [← ptRow_append, Nat.zero_add] at h
                rw [show (([] : List Pt) ++ P).length = m from HM.out]
                exact h)
              go_wp2_with fail
              go_roundg (n - i)
              case measure => have := HGI.out; omega
              case rel => exact ⟨i + 1, V', [] ++ P, wo', by simp, by have := HGI.out; omega, ⟨HO2.out.1, HO2.out.2.1, HV8.out, G2.out.1, fun x hx => (List.mem_append.1 hx).elim (HF.out.1 x) (HF.out.2 x)⟩, by rw [List.length_append, HM.out]; simp; omega, by omega, .inl ⟨by omega, HNX.out, HTT.out, fun o h h' e => h15 (H5.out.1 (by simpa using e))⟩⟩
          · by_cases h5 : s.op = 5
            · have HTR := Lib.hid (show Lv.all V ++ (flushM now true ++ traceGo ([] ++ pointsM (lastP []) s) (L.drop (i + 1))) = T by
                have h := htr
                rw [if_pos (by omega), show decide (s.op = 5) = true by rw [h5]; rfl, show nowM now s = [] by unfold nowM; rw [if_pos (by omega)]] at h
                exact h)
              have HNM := Lib.hid (show nowM now s = [] by unfold nowM; rw [if_pos (by omega)])
              rw [h5] at e0
              clear htr
              go_upto_if 41 with fail
              go_cut [5, 6, 8, 9] from 16 to 85 (fun v5 v6 v8 v9 wc => ∃ (V' : List Lv) (now' : List Pt) (wo' : World), OwnLn wo' w.heap.size v5 V' ∧ Below w.heap.size w wo' ∧ wc.ownsRow wo'.heap.size 42 2 v6 now'.length (ptRow now') ∧ Below wo'.heap.size wo' wc ∧ FitL now' ∧ now'.length ≤ 32 * i ∧ V'.length ≤ i + 1 ∧ now' = nowM now s ∧ Lv.all V' ++ traceGo (now' ++ pointsM (lastP now') s) (L.drop (i + 1)) = T ∧ v6 = .slice none 0 0)
              case first =>
                obtain ⟨m2, hm2⟩ : ∃ m2, (lineM now true).length = m2 := ⟨_, rfl⟩
                have HM2 := Lib.hid hm2
                have CLtrue := Lib.hid (fun U (hU : Below wr.heap.size wr U) => by
                  have h := ref12_line now A6 c6 true U (HRN.out.on hU) (by omega)
                  rw [hm2, hnl] at h
                  exact h)
                by_cases hok : 1 < m2
                · have hfl : flushM now true = [⟨lineM now true, true⟩] := by unfold flushM; rw [if_pos (by rw [hm2]; exact hok)]
                  rw [decide_eq_true hok] at CLtrue
                  have HFL := Lib.hid hfl
                  clear hm2 hfl
                  go_wp2_with first
                    | (go_at_call 21; (with_reducible refine Calls.mono (CLtrue.out _ (Below.refl _ _)) ?_); rintro e w2 ⟨⟨v2, rfl, own2⟩, b2⟩; obtain ⟨p2, k2, rfl, -, -, -⟩ := RdV.ofOwnK own2; obtain ⟨W2, hW2, kW2, bW2⟩ := endP w2 57 (.slice none 0 0) (.bool false); obtain ⟨⟨y0, y1⟩, z2, z3⟩ := Box.pair kW2; obtain ⟨W3, hW3, kW3, ⟨z0, z1⟩, bU3⟩ := kW2.stored2 (.slice p2 m2 k2) (.bool true); have bW3 := bW2.trans (bU3 w2.heap.size (Nat.le_refl _)); have b3 := b2.trans (bW3.mono b2.size); have H3 := Lib.hid (And.intro (HO.out.1.kept b3) (And.intro (own_below own2 bW3) (HO.out.2.1.trans (b3.mono HO.out.2.1.size)))); clear own2 b2 bW2 bU3 bW3 b3 kW2 kW3)
                    | (rw [hW2])
                    | (rw [hW3])
                    | (at_builtin; refine wpList_append_own _ rfl _ _ 23 rfl w.heap.size 57 j0 (.agg #[.slice none 0 0, .bool false]) 2 32 Try.underlying23 hj0 hy0 hy1 hy2 rfl (by decide) _ V.length _ rfl (H3.out.1.1.alloc _) ⟨W3.heap.size, 0, none⟩ 1 1 [.slice p2 m2 k2, .bool true] rfl rfl (two_new _ _ _ _) (by simp [Value.oneCell']) (by unfold maxLen; omega) (by omega) (by have h1 := H3.out.2.2.size; simp; omega) ?_; intro v4 w4 hown4 hgrow4 _; replace hown4 := Lib.hid hown4; replace hgrow4 := Lib.hid hgrow4)
                  have hV4 : OwnLn w4 w.heap.size v4 (V ++ [⟨p2, k2, lineM now true, true⟩]) := by
                    refine (H3.out.1.kept (below_new W3 _)).snoc (x := ⟨p2, k2, lineM now true, true⟩) ?_ hgrow4.out ?_
                    · show (W3.alloc _).ownsRow w.heap.size 42 2 (.slice p2 (lineM now true).length k2) (lineM now true).length (ptRow (lineM now true))
                      have h := H3.out.2.1
                      rw [← HM2.out] at h
                      exact own_below (own_mono h HBW.out.size) (below_new W3 _)
                    · have h := hown4.out
                      rw [← HM2.out] at h
                      exact h
                  have hB4 := below_grow2 ((H3.out.2.2).alloc H3.out.2.2.size (.cells #[.slice p2 m2 k2, .bool true] 57)) (H3.out.1.1.alloc _) (by have h1 := H3.out.2.2.size; simp; omega) hgrow4.out
                  have HV4 := Lib.hid (And.intro hV4 hB4)
                  clear hV4 hB4
                  go_meet
                  exact ⟨_, [], w4, HV4.out.1, HV4.out.2, World.ownsRow_nil _ _ _ _, Below.refl _ _, fun p hp => by simp at hp, by simp, by rw [List.length_append]; simp; omega, HNM.out.symm, by have h := HTR.out; rw [HFL.out] at h; rw [Lv.all_snoc, List.append_assoc]; exact h, rfl⟩
                · have hfl : flushM now true = [] := by unfold flushM; rw [if_neg (by rw [hm2]; exact hok)]
                  rw [decide_eq_false hok] at CLtrue
                  have HFL := Lib.hid hfl
                  clear hm2 hfl
                  go_wp2_with first
                    | (go_at_call 21; (with_reducible refine Calls.mono (CLtrue.out _ (Below.refl _ _)) ?_); rintro e w2 ⟨⟨v2, rfl, own2⟩, b2⟩; obtain ⟨p2, k2, rfl, -, -, -⟩ := RdV.ofOwnK own2; obtain ⟨W2, hW2, kW2, bW2⟩ := endP w2 57 (.slice none 0 0) (.bool false); obtain ⟨⟨y0, y1⟩, z2, z3⟩ := Box.pair kW2; obtain ⟨W3, hW3, kW3, ⟨z0, z1⟩, bU3⟩ := kW2.stored2 (.slice p2 m2 k2) (.bool true); have bW3 := bW2.trans (bU3 w2.heap.size (Nat.le_refl _)); have b3 := b2.trans (bW3.mono b2.size); have H3 := Lib.hid (And.intro (HO.out.1.kept b3) (And.intro (own_below own2 bW3) (HO.out.2.1.trans (b3.mono HO.out.2.1.size)))); clear own2 b2 bW2 bU3 bW3 b3 kW2 kW3)
                    | (rw [hW2])
                    | (rw [hW3])
                  try rw [hW3]
                  go_meet
                  exact ⟨V, [], W3, H3.out.1, H3.out.2.2, World.ownsRow_nil _ _ _ _, Below.refl _ _, fun p hp => by simp at hp, by simp, by omega, HNM.out.symm, by have h := HTR.out; rw [HFL.out] at h; simpa using h, rfl⟩
              case rest =>
                obtain ⟨V', N', wo', hV, hBo, hown, hBr, hfit2, hlen2, hVl2, hnm2, htr2, hv6⟩ := hcut
                subst hv6
                have hi2 : i < L.length := by rw [HN.out]; exact hlt2
                have hsl : L[i] = s := by rw [← HSS.out]; simp [List.getD, hi2]
                have hst := checkGo_step hi2
                rw [HCK.out, hsl] at hst
                have hbad : badM (prevAt L i) s = 0 := by
                  by_cases hb : badM (prevAt L i) s = 0
                  · exact hb
                  · rw [if_neg hb] at hst; exact absurd hst.symm hb
                rw [if_pos hbad] at hst
                have HNX := Lib.hid hst.symm
                have HBC := Lib.hid (hBo.trans (hBr.mono hBo.size))
                obtain ⟨b', o', e', hb', d0, d1, d2, d3, d4, d5, d6⟩ := (HL.out.below HBC.out).st hi2
                cases e'
                rw [hsl] at d0 d1 d2 d3 d4 d5 d6
                have HSC := Lib.hid (fun X (hX : Below wo'.heap.size wo' X) => by have h := (HL.out.below (hBo.trans (hX.mono hBo.size))).st hi2; rw [hsl] at h; exact h)
                have hN0 : N' = [] := by rw [hnm2]; exact HNM.out
                subst hN0
                obtain ⟨p, hpp⟩ : ∃ p : Pt, p = ⟨0, 0⟩ := ⟨_, rfl⟩
                have hp : lastP ([] : List Pt) = p := by rw [hpp]; rfl
                have hfp : FitP p := by rw [← hp]; exact hfit2.getD _
                rw [hp] at htr2
                obtain ⟨f3, f4, fl, f5⟩ := step_fits hbad hfp
                have cP := fun U => ref12_Points p s f3 f4 U
                have hle := pointsM_le p s
                generalize pointsM p s = P at cP f5 fl hle htr2
                clear hst hbad f3 f4 hnm2
                obtain ⟨op, q0, q1, q2⟩ := s
                dsimp only at h5; subst h5
                have HPV := Lib.hid (show prevAt L (i + 1) = some 5 by rw [prevAt_succ hi2, hsl])
                obtain ⟨px, py⟩ := p
                cases hpp
                unfold ptV stV GivesPts at cP
                dsimp only at d0 d1 d2 d3 d4 d5 d6 cP f5
                obtain ⟨m, hm⟩ : ∃ m, P.length = m := ⟨_, rfl⟩
                have HM := Lib.hid hm
                rw [hm] at hle
                simp only [hm] at cP
                have CP := Lib.hid cP
                obtain ⟨W, hW, kW, bW⟩ := endP wc 42 (.int .i64 0) (.int .i64 0)
                have hb2 := Nat.lt_of_lt_of_le hb' HBC.out.size
                obtain ⟨⟨y0, y1⟩, y2, y3⟩ := Box.pair kW
                obtain ⟨U, hU, kU, ⟨u0, u1⟩, bU⟩ := kW.stored2 (.int .i64 0) (.int .i64 0)
                have bWU := bW.trans (bU wc.heap.size (Nat.le_refl _))
                have HO2 := Lib.hid (And.intro hV (And.intro hBo (And.intro hown (And.intro hBr (And.intro bWU kU)))))
                have g0 := (bWU.cell (p := ⟨b, o + i * 7, none⟩) hb2).trans d0
                have g1 := (bWU.cell (p := ⟨b, o + i * 7 + 1, none⟩) hb2).trans d1
                have g2 := (bWU.cell (p := ⟨b, o + i * 7 + 2, none⟩) hb2).trans d2
                have g3 := (bWU.cell (p := ⟨b, o + i * 7 + 3, none⟩) hb2).trans d3
                have g4 := (bWU.cell (p := ⟨b, o + i * 7 + 4, none⟩) hb2).trans d4
                have g5 := (bWU.cell (p := ⟨b, o + i * 7 + 5, none⟩) hb2).trans d5
                have g6 := (bWU.cell (p := ⟨b, o + i * 7 + 6, none⟩) hb2).trans d6
                have HF := Lib.hid (And.intro hfit2 fl)
                have H5 := Lib.hid f5
                have HTT := Lib.hid htr2
                clear d0 d1 d2 d3 d4 d5 d6 hV hBo hown hBr bW bWU kW bU kU hfit2 fl f5 htr2 hb' hp hm cP  hsl
                go_wp2_with first
                  | (rw [hW])
                try rw [hU]
                have HCS := Lib.hid (fun X (h : KeepG wo' U wc.heap.size X) => show (X.cell? ⟨wc.heap.size, 0, none⟩ = some (.int .i64 0) ∧ X.cell? ⟨wc.heap.size, 1, none⟩ = some (.int .i64 0) ∧ X.cell? ⟨b, o + i * 7, none⟩ = some (.int .i64 5) ∧ X.cell? ⟨b, o + i * 7 + 1, none⟩ = some (.int .i64 q0.x) ∧ X.cell? ⟨b, o + i * 7 + 2, none⟩ = some (.int .i64 q0.y) ∧ X.cell? ⟨b, o + i * 7 + 3, none⟩ = some (.int .i64 q1.x) ∧ X.cell? ⟨b, o + i * 7 + 4, none⟩ = some (.int .i64 q1.y) ∧ X.cell? ⟨b, o + i * 7 + 5, none⟩ = some (.int .i64 q2.x) ∧ X.cell? ⟨b, o + i * 7 + 6, none⟩ = some (.int .i64 q2.y)) ∧ KeepG wo' U wc.heap.size X from by
                  have k : Box X wc.heap.size 42 [.int .i64 0, .int .i64 0] := h.2.2.symm.trans HO2.out.2.2.2.2.2
                  obtain ⟨b', o', e', -, d0, d1, d2, d3, d4, d5, d6⟩ := HSC.out X h.1
                  cases e'
                  exact ⟨⟨(Box.pair k).1.1, (Box.pair k).1.2, d0, d1, d2, d3, d4, d5, d6⟩, h⟩)
                have G0 := Lib.hid (show KeepG wo' U wc.heap.size U.drew from ⟨(HO2.out.2.2.2.1.trans (HO2.out.2.2.2.2.1.mono HO2.out.2.2.2.1.size)).drew, HO2.out.2.2.2.2.2.lt, rfl⟩)
                have HH := Lib.hid (HCS.out U.drew G0.out)
                have HVU := Lib.hid (show U.drew.ownsRow wo'.heap.size 42 2 (.slice none 0 0) 0 (ptRow ([] : List Pt)) from own_below HO2.out.2.2.1 HO2.out.2.2.2.2.1.drew)
                have hP : P = [] := H5.out.2 trivial
                subst hP
                have hm0 : m = 0 := by rw [← HM.out]; rfl
                subst hm0
                go_region_held3 (fun w' => (w'.cell? ⟨wc.heap.size, 0, none⟩ = some (.int .i64 0) ∧ w'.cell? ⟨wc.heap.size, 1, none⟩ = some (.int .i64 0) ∧ w'.cell? ⟨b, o + i * 7, none⟩ = some (.int .i64 5) ∧ w'.cell? ⟨b, o + i * 7 + 1, none⟩ = some (.int .i64 q0.x) ∧ w'.cell? ⟨b, o + i * 7 + 2, none⟩ = some (.int .i64 q0.y) ∧ w'.cell? ⟨b, o + i * 7 + 3, none⟩ = some (.int .i64 q1.x) ∧ w'.cell? ⟨b, o + i * 7 + 4, none⟩ = some (.int .i64 q1.y) ∧ w'.cell? ⟨b, o + i * 7 + 5, none⟩ = some (.int .i64 q2.x) ∧ w'.cell? ⟨b, o + i * 7 + 6, none⟩ = some (.int .i64 q2.y)) ∧ KeepG wo' U wc.heap.size w')
                  (first
                    | (with_reducible exact HH.out)
                    | (with_reducible exact HCS.out _ G1.out))
                  ((go_at_call 22; (with_reducible refine Calls.mono (CP.out _) ?_); rintro e w2 ⟨⟨q, k, rfl, hnil, -⟩, b2⟩; obtain ⟨rfl, rfl⟩ := hnil rfl; have G1 := Lib.hid (G0.out.on b2); have HV6 := Lib.hid (own_below HVU.out b2); clear b2 hnil))
                go_wp2_with fail
                go_roundg (n - i)
                case measure => have := HGI.out; omega
                case rel => exact ⟨i + 1, V', [], wo', by simp, by have := HGI.out; omega, ⟨HO2.out.1, HO2.out.2.1, HV6.out, G1.out.1, HF.out.1⟩, by simp, by omega, .inl ⟨by omega, HNX.out, HTT.out, fun o h h' e => by have h2 := HPV.out; rw [h] at h2; cases h2; exact h' rfl⟩⟩
            · have hi2 : i < L.length := by rw [HN.out]; exact hlt2
              have hsl : L[i] = s := by rw [← HSS.out]; simp [List.getD, hi2]
              have hst := checkGo_step hi2
              rw [HCK.out, hsl] at hst
              have hbad : badM (prevAt L i) s = 0 := by
                by_cases hb : badM (prevAt L i) s = 0
                · exact hb
                · rw [if_neg hb] at hst; exact absurd hst.symm hb
              rw [if_pos hbad] at hst
              have HNX := Lib.hid hst.symm
              have hnn0 : now ≠ [] := by
                rcases (badM_zero hbad).2.1 with h | ⟨o, h, h'⟩
                · exact absurd h h1
                · exact HNN.out o h h'
              obtain ⟨hV, hBo, hown, hBr, hfit2⟩ := HO.out.2.2
              obtain ⟨b', o', e', hb', d0, d1, d2, d3, d4, d5, d6⟩ := (HL.out.below HBW.out).st hi2
              cases e'
              rw [hsl] at d0 d1 d2 d3 d4 d5 d6
              have HSC := Lib.hid (fun X (hX : Below wo.heap.size wo X) => by have h := (HL.out.below (hBo.trans (hX.mono hBo.size))).st hi2; rw [hsl] at h; exact h)
              have htr2 := htr
              rw [if_neg (by omega), show nowM now s = now by unfold nowM; rw [if_neg (by omega)], List.nil_append] at htr2
              have hnlp : 0 < nl := by rw [← hnl]; exact List.length_pos_iff.2 hnn0
              obtain ⟨gA, oA, rfl, hgA, l0, l1⟩ := HRN.out.pt (i := nl - 1) (by omega)
              rw [← getD_get (by omega)] at l0 l1
              have hlp : lastP now = now.getD (nl - 1) pt0 := by unfold lastP; rw [hnl]
              rw [← hlp] at l0 l1
              obtain ⟨p, hp⟩ : ∃ p, lastP now = p := ⟨_, rfl⟩
              have hfp : FitP p := by rw [← hp]; exact hfit2.getD _
              rw [hp] at l0 l1 htr2
              obtain ⟨f3, f4, fl, f5⟩ := step_fits hbad hfp
              have cP := fun U => ref12_Points p s f3 f4 U
              have hle := pointsM_le p s
              generalize pointsM p s = P at cP f5 fl hle htr2
              clear hst hbad f3 f4 htr
              obtain ⟨op, q0, q1, q2⟩ := s
              dsimp only at h1 h5
              have h15 : ¬ op = 5 := h5
              have h1b : (op == 1) = false := by simpa using h1
              have h5b : (op == 5) = false := by simpa using h5
              obtain ⟨px, py⟩ := p
              unfold ptV stV GivesPts at cP
              dsimp only at d0 d1 d2 d3 d4 d5 d6 cP f5 e0 l0 l1
              obtain ⟨m, hm⟩ : ∃ m, P.length = m := ⟨_, rfl⟩
              have HM := Lib.hid hm
              have HNL := Lib.hid hnl
              rw [hm] at hle
              rw [hnl] at hown
              simp only [hm] at cP
              have CP := Lib.hid cP
              obtain ⟨W, hW, kW, bW⟩ := endP wr 42 (.int .i64 0) (.int .i64 0)
              have hb2 := Nat.lt_of_lt_of_le hb' HBW.out.size
              obtain ⟨⟨y0, y1⟩, y2, y3⟩ := Box.pair kW
              obtain ⟨W1, hW1, kW1, ⟨t0, t1⟩, bW1⟩ := kW.stored2 (.int .i64 0) (.int .i64 0)
              obtain ⟨-, t2, t3⟩ := Box.pair kW1
              obtain ⟨U, hU, kU, ⟨u0, u1⟩, bU⟩ := kW1.stored2 (.int .i64 px) (.int .i64 py)
              have bWU := (bW.trans (bW1 wr.heap.size (Nat.le_refl _))).trans (bU wr.heap.size (Nat.le_refl _))
              have HO2 := Lib.hid (And.intro hV (And.intro hBo (And.intro hown (And.intro hBr (And.intro bWU kU)))))
              have g0 := (bWU.cell (p := ⟨b, o + i * 7, none⟩) hb2).trans d0
              have g1 := (bWU.cell (p := ⟨b, o + i * 7 + 1, none⟩) hb2).trans d1
              have g2 := (bWU.cell (p := ⟨b, o + i * 7 + 2, none⟩) hb2).trans d2
              have g3 := (bWU.cell (p := ⟨b, o + i * 7 + 3, none⟩) hb2).trans d3
              have g4 := (bWU.cell (p := ⟨b, o + i * 7 + 4, none⟩) hb2).trans d4
              have g5 := (bWU.cell (p := ⟨b, o + i * 7 + 5, none⟩) hb2).trans d5
              have g6 := (bWU.cell (p := ⟨b, o + i * 7 + 6, none⟩) hb2).trans d6
              have bZ := bW.trans (bW1 wr.heap.size (Nat.le_refl _))
              have l0' := (bZ.cell (p := ⟨gA, oA + (nl - 1) * 2, none⟩) hgA).trans l0
              have l1' := (bZ.cell (p := ⟨gA, oA + (nl - 1) * 2 + 1, none⟩) hgA).trans l1
              have n1 : (0 : Int) < (nl : Int) := by omega
              have n2 : IntKind.i64.wrap ((nl : Int) - 1) = (nl : Int) - 1 := IntWalk.i64_in _ (by omega)
              have n3 : 0 ≤ (nl : Int) - 1 ∧ (nl : Int) - 1 < (nl : Int) := by omega
              have n4 : ((nl : Int) - 1).toNat = nl - 1 := by omega
              have HF := Lib.hid (And.intro hfit2 fl)
              have H5 := Lib.hid f5
              have HTT := Lib.hid htr2
              clear d1 d2 d3 d4 d5 d6 hV hBo hown hBr bW bWU kW bU kU bZ bW1 kW1 hfit2 fl f5 htr2 hb' hp hm cP hsl hlp hnn0 hfp l0 l1 h1 h5
              go_wp2_with first
                | (rw [hW])
                | (rw [hW1])
              try rw [hW1]
              try rw [hU]
              have HCS := Lib.hid (fun X (h : KeepG wo U wr.heap.size X) => show (X.cell? ⟨wr.heap.size, 0, none⟩ = some (.int .i64 px) ∧ X.cell? ⟨wr.heap.size, 1, none⟩ = some (.int .i64 py) ∧ X.cell? ⟨b, o + i * 7, none⟩ = some (.int .i64 op) ∧ X.cell? ⟨b, o + i * 7 + 1, none⟩ = some (.int .i64 q0.x) ∧ X.cell? ⟨b, o + i * 7 + 2, none⟩ = some (.int .i64 q0.y) ∧ X.cell? ⟨b, o + i * 7 + 3, none⟩ = some (.int .i64 q1.x) ∧ X.cell? ⟨b, o + i * 7 + 4, none⟩ = some (.int .i64 q1.y) ∧ X.cell? ⟨b, o + i * 7 + 5, none⟩ = some (.int .i64 q2.x) ∧ X.cell? ⟨b, o + i * 7 + 6, none⟩ = some (.int .i64 q2.y)) ∧ KeepG wo U wr.heap.size X from by
                have k : Box X wr.heap.size 42 [.int .i64 px, .int .i64 py] := h.2.2.symm.trans HO2.out.2.2.2.2.2
                obtain ⟨b', o', e', -, d0, d1, d2, d3, d4, d5, d6⟩ := HSC.out X h.1
                cases e'
                exact ⟨⟨(Box.pair k).1.1, (Box.pair k).1.2, d0, d1, d2, d3, d4, d5, d6⟩, h⟩)
              have G0 := Lib.hid (show KeepG wo U wr.heap.size U.drew from ⟨(HO2.out.2.2.2.1.trans (HO2.out.2.2.2.2.1.mono HO2.out.2.2.2.1.size)).drew, HO2.out.2.2.2.2.2.lt, rfl⟩)
              have HH := Lib.hid (HCS.out U.drew G0.out)
              have HVU := Lib.hid (show U.drew.ownsRow wo.heap.size 42 2 (.slice (some ⟨gA, oA, none⟩) nl c6) nl (ptRow now) from own_below HO2.out.2.2.1 HO2.out.2.2.2.2.1.drew)
              have hm0 : 0 < m := by
                rw [← HM.out]
                exact List.length_pos_iff.2 fun e => h15 (H5.out.1 e)
              have hxm : nl + m ≤ maxLen := by unfold maxLen; omega
              have hxb : (nl + m) * 16 ≤ 140737488355328 := by omega
              go_region_held3 (fun w' => (w'.cell? ⟨wr.heap.size, 0, none⟩ = some (.int .i64 px) ∧ w'.cell? ⟨wr.heap.size, 1, none⟩ = some (.int .i64 py) ∧ w'.cell? ⟨b, o + i * 7, none⟩ = some (.int .i64 op) ∧ w'.cell? ⟨b, o + i * 7 + 1, none⟩ = some (.int .i64 q0.x) ∧ w'.cell? ⟨b, o + i * 7 + 2, none⟩ = some (.int .i64 q0.y) ∧ w'.cell? ⟨b, o + i * 7 + 3, none⟩ = some (.int .i64 q1.x) ∧ w'.cell? ⟨b, o + i * 7 + 4, none⟩ = some (.int .i64 q1.y) ∧ w'.cell? ⟨b, o + i * 7 + 5, none⟩ = some (.int .i64 q2.x) ∧ w'.cell? ⟨b, o + i * 7 + 6, none⟩ = some (.int .i64 q2.y)) ∧ KeepG wo U wr.heap.size w')
                (first
                  | (with_reducible exact HH.out)
                  | (with_reducible exact HCS.out _ G1.out)
                  | (with_reducible exact HCS.out _ G2.out))
                ((first
                  | (go_at_call 22; (with_reducible refine Calls.mono (CP.out _) ?_); rintro e w2 ⟨⟨q, k, rfl, -, r2⟩, b2⟩
                     obtain ⟨ga, oa, rfl, -, hc⟩ := r2 (by rw [ptRow_length, HM.out]; omega)
                     have G1 := Lib.hid (G0.out.on b2)
                     have HV6 := Lib.hid (own_below HVU.out b2)
                     have HNS := Lib.hid (row_news hc)
                     clear r2 b2 hc)
                  | (refine step_append_lies _ (by rfl) _ _ _ (by rfl) wo.heap.size 42 i0 (.agg #[.int .i64 0, .int .i64 0]) 2 16 Try.underlying47 hi0 hz0 hz1 hz2 rfl (by omega) _ nl (ptRow now) (by rfl) HV6.out ⟨ga, oa, none⟩ m k (ptRow P) (by rfl) (by rw [ptRow_length, HM.out]) HNS.out (one_ptRow P) hm0 hxm hxb (G1.out.1.size) w2.heap.size (by rfl) ?_; intro gg cap w8 hown8 hgrow8 hor8 hlt8
                     have HW8 := Lib.hid hown8
                     have G2 := Lib.hid (G1.out.grown hgrow8 HV6.out HO2.out.2.2.1 (Nat.le_refl _) (Nat.le_refl _))
                     clear hown8 hgrow8 hor8 hlt8)))
              have HV8 := Lib.hid (show w8.ownsRow wo.heap.size 42 2 (.slice (some ⟨gg, 0, none⟩) (nl + m) cap) (now ++ P).length (ptRow (now ++ P)) from by
                have h := HW8.out
                rw [← ptRow_append] at h
                rw [List.length_append, HM.out, HNL.out]
                exact h)
              go_wp2_with fail
              go_roundg (n - i)
              case measure => have := HGI.out; omega
              case rel => exact ⟨i + 1, V, now ++ P, wo, by simp, by have := HGI.out; omega, ⟨HO2.out.1, HO2.out.2.1, HV8.out, G2.out.1, fun x hx => (List.mem_append.1 hx).elim (HF.out.1 x) (HF.out.2 x)⟩, by rw [List.length_append, HM.out]; have := HNL.out; omega, by omega, .inl ⟨by omega, HNX.out, HTT.out, fun o h h' e => h15 (H5.out.1 (List.append_eq_nil_iff.1 e).2)⟩⟩
      · have hend : Lv.all V = T := by
          rcases hor with h | h
          · omega
          · exact h.2
        obtain ⟨hV, hBo, -, hBr, -⟩ := hst
        obtain ⟨q, k, rfl, -, hr⟩ := hV.rd
        have hlen : V.length = T.length := by rw [← hend]; simp [Lv.all]
        have HE := Lib.hid (And.intro hend (And.intro (hr.on hBr) (And.intro (hBo.trans (hBr.mono hBo.size)) hlen)))
        have hil : ¬ (i : Int) ≤ (n : Int) := by omega
        clear hend hV hBo hBr hr hor hlen
        go_wp2_with fail
        go_ret2
        exact ⟨⟨q, k, V, by rw [← HE.out.2.2.2]; rfl, HE.out.1, HE.out.2.1⟩, HE.out.2.2.1⟩
  · have hT0 : T = [] := by rw [← hT]; unfold traceM; rw [if_neg (by rw [hE]; exact hz)]
    subst hT0
    have hzb : (E == 0) = false := by simpa using hz
    clear cC hn hL hE hT
    go_enter Try.func7, Try.ntmps7
    go_wp2_with (go_at_call 20; (with_reducible refine Calls.mono CC.out ?_); rintro e w1 ⟨rfl, b1⟩)
    go_ret2
    exact ⟨⟨none, 0, [], rfl, rfl, RdLn.nil _ _ _⟩, b1⟩
end Go.Proofs.Ytbgjpmijegeeiaa
