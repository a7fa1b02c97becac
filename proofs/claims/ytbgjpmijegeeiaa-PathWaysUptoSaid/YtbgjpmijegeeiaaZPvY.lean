/- Paths, the program's own: a trail goes on to points. -/
import Derived.Test.YtbgjpmijegeeiaaZPvX
import Derived.Deep.RegionLaw
import Derived.Test.YtbgjpmijegeeiaaZPtY
namespace Go.Proofs.Ytbgjpmijegeeiaa
open Go.RowKit

/-- a trail that has gone on to points -/
def OnTo (t : Nat) (V : List Lv) (a l : List Pt) (ov : Value) (w w' : World) : Prop := ∃ nv', Trl w' t V (onceM (a ++ l)) ov nv' ∧ Below t w w'

set_option maxRecDepth 10000 in
set_option maxHeartbeats 12800000 in
theorem trail_on (t : Nat) (V : List Lv) (a l : List Pt) (ov nv : Value) (q : Option Addr) (k : Nat) (w : World) (h : Trl w t V (onceM a) ov nv) (hq : RdV w w.heap.size q (ptRow l)) (hf : ∀ b o, q = some ⟨b, o, none⟩ → b ≠ t ∧ nv.ownBlock ≠ some b) (hal : a.length + l.length ≤ 1073741824) :
    Calls Try.prog 27 #[.pointer (some ⟨t, 0, none⟩), .slice q l.length k] w fun e w' => e = .returned (.tuple #[]) ∧ OnTo t V a l ov w w' := by
  obtain ⟨n, hn⟩ : ∃ n, l.length = n := ⟨_, rfl⟩
  have HN := Lib.hid hn
  obtain ⟨i0, hi0, hz0, hz1, hz2⟩ := info_parts info_pt
  have HS := Lib.hid (And.intro h (And.intro hq hf))
  rw [hn] at hal ⊢
  clear hn h hq hf
  go_enter Try.func27, Try.ntmps27
  go_wp2_with fail
  go_loopg [8] n (fun gh it wr => ∃ (i : Nat) (nv' : Value), it = .int .i64 (i : Int) ∧ gh + i = n ∧ Trl wr t V (onceM (a ++ l.take i)) ov nv' ∧ Below t w wr ∧ RdV wr wr.heap.size q (ptRow l) ∧ ∀ b o, q = some ⟨b, o, none⟩ → b ≠ t ∧ nv'.ownBlock ≠ some b)
  case atStart => exact ⟨0, nv, rfl, by omega, by rw [List.take_zero, List.append_nil]; exact HS.out.1, Below.refl _ _, HS.out.2.1, HS.out.2.2⟩
  case round =>
    obtain ⟨i, nv', rfl, hg, hT, hB, hr, hf⟩ := hrel
    have HGI := Lib.hid hg
    by_cases hlt : i < n
    · have hlt' : i < l.length := by rw [HN.out]; exact hlt
      obtain ⟨b, o, rfl, hb, e0, e1⟩ := hr.pt (i := i) hlt'
      have hil : (i : Int) < (n : Int) := by omega
      obtain ⟨p, hp⟩ : ∃ p, l[i] = p := ⟨_, rfl⟩
      rw [hp] at e0 e1
      have hsn : onceM (a ++ l.take (i + 1)) = if a ++ l.take i = [] ∨ p ≠ lastP (a ++ l.take i) then onceM (a ++ l.take i) ++ [p] else onceM (a ++ l.take i) := by
        rw [List.take_succ_eq_append_getElem hlt', ← List.append_assoc, hp]
        exact onceM_snoc _ _
      have hla := onceM_last (a ++ l.take i)
      have hni := onceM_nil (a := a ++ l.take i)
      have hle := onceM_le (a ++ l.take i)
      have hle2 : (a ++ l.take i).length ≤ a.length + i := by rw [List.length_append, List.length_take]; omega
      have hin : i < n := hlt
      obtain ⟨O, hO⟩ : ∃ O, onceM (a ++ l.take i) = O := ⟨_, rfl⟩
      have HSN := Lib.hid (show onceM (a ++ l.take (i + 1)) = if O = [] ∨ p ≠ lastP O then O ++ [p] else O by
        rw [hO] at hsn hla hni
        rw [hsn, hla]
        simp only [hni])
      rw [hO] at hT hle
      have hOl : O.length + 1 ≤ 1073741824 := by omega
      clear hsn hla hni hle hle2 hO hp hlt'
      obtain ⟨qo, ko, rfl, hk, -, hro⟩ := RdV.ofOwnK hT.pts
      obtain ⟨px, py⟩ := p
      dsimp only at e0 e1
      obtain ⟨W, hW, kW, bW⟩ := endP wr 42 (.int .i64 px) (.int .i64 py)
      have hTW := hT.below bW
      have hWs : wr.heap.size < W.heap.size := kW.lt
      have htw := hTW.box.lt
      have HTW := Lib.hid hTW
      have HBW := Lib.hid (hB.trans (bW.mono (Nat.le_of_lt hT.box.lt)))
      have HRW := Lib.hid (And.intro (hr.on bW) hf)
      have HKW := Lib.hid kW
      have HBX := Lib.hid bW
      obtain ⟨⟨x0, x1⟩, -⟩ := Box.pair kW
      obtain ⟨⟨c0, c1⟩, -⟩ := Box.pair hTW.box
      clear hT hB hr hf hTW kW bW hro
      obtain ⟨m, hm⟩ : ∃ m, O.length = m := ⟨_, rfl⟩
      have HM := Lib.hid hm
      rw [hm] at hOl c1 hk HTW HRW
      by_cases hO0 : O = []
      · have HSX := Lib.hid (show onceM (a ++ l.take (i + 1)) = O ++ [⟨px, py⟩] by rw [HSN.out, if_pos (.inl hO0)])
        have hm0 : m = 0 := by rw [← hm, hO0]; rfl
        clear HSN hm hO0
        subst hm0
        go_wp2_with (rw [hW])
        try rw [hW]
        go_quiet (fail)
        have HTQ := Lib.hid (HTW.out.below (below_figE (Below.refl W.heap.size W) nq))
        have HBQ := Lib.hid (HBW.out.trans ((below_figE (Below.refl W.heap.size W) nq).mono (Nat.le_of_lt htw)))
        have HRQ := Lib.hid (show RdV (W.drewN nq) (W.drewN nq).heap.size (some ⟨b, o, none⟩) (ptRow l) from HRW.out.1)
        obtain ⟨X, hX⟩ : ∃ X, W.drewN nq = X := ⟨_, rfl⟩
        have hXs0 : W.heap.size ≤ X.heap.size := by rw [← hX]; exact Nat.le_refl _
        have f0 : X.cell? ⟨wr.heap.size, 0, none⟩ = some (.int .i64 px) := by rw [← hX]; exact x0
        have f1 : X.cell? ⟨wr.heap.size, 1, none⟩ = some (.int .i64 py) := by rw [← hX]; exact x1
        have g1 : X.cell? ⟨t, 1, none⟩ = some (.slice qo 0 ko) := by rw [← hX]; exact c1
        rw [hX] at HTQ HBQ HRQ ⊢
        clear hX
        have htx := HTQ.out.box.lt
        have HTX := Lib.hid ((HTQ.out.alloc (.cells #[.int .i64 px, .int .i64 py] 42)).drew)
        have HOW := Lib.hid (show (X.alloc (.cells #[.int .i64 px, .int .i64 py] 42)).drew.ownsRow (t + 1) 42 2 (.slice qo 0 ko) 0 (ptRow O) by have h := HTX.out.pts; rw [HM.out] at h; exact h)
        have HNW := Lib.hid (show ∀ j u, [(.int .i64 px : Value), .int .i64 py][j]? = some u → (X.alloc (.cells #[.int .i64 px, .int .i64 py] 42)).drew.cell? ((⟨X.heap.size, 0, none⟩ : Addr).add j) = some u from two_new X 42 _ _)
        have HBD := Lib.hid (show Below X.heap.size X (X.alloc (.cells #[.int .i64 px, .int .i64 py] 42)).drew from (below_new X _).drew)
        have hxl : t + 1 ≤ (X.alloc (.cells #[.int .i64 px, .int .i64 py] 42)).drew.heap.size := Nat.le_trans htx HBD.out.size
        have hxm : 0 + 1 ≤ maxLen := by unfold maxLen; omega
        have hxb : (0 + 1) * 16 ≤ 140737488355328 := by omega
        go_wp2_with fail
        go_region_law (refine step_append_lies _ (by rfl) _ _ _ (by rfl) (t + 1) 42 i0 (.agg #[.int .i64 0, .int .i64 0]) 2 16 Try.underlying47 hi0 hz0 hz1 hz2 rfl (by omega) _ 0 (ptRow O) (by rfl) HOW.out ⟨X.heap.size, 0, none⟩ 1 1 [.int .i64 px, .int .i64 py] (by rfl) (by rfl) HNW.out (by simp [Value.oneCell']) (by omega) hxm hxb hxl (X.heap.size + 1) (by simp) ?_
                       intro gg cap w8 hown8 hgrow8 hor8 hlt8
                       obtain ⟨⟨r1, r2⟩, U, hU, r3, r4, r5⟩ := Trl.more (H := X.heap.size + 1) HTX.out ⟨px, py⟩ hgrow8 hor8 (by simp) (by rw [HM.out]; exact hown8)
                       rw [HM.out] at hU r3
                       replace r3 := Lib.hid (And.intro r3 (And.intro r4 (And.intro hgrow8 (And.intro hor8 r5))))
                       clear hown8 hgrow8 hor8 hlt8 r4 r5)
        all_goals
          have HRX := Lib.hid (show RdV U U.heap.size (some ⟨b, o, none⟩) (ptRow l) from by
            rw [← hU]
            exact ((HRQ.out.on HBD.out).grownT r3.out.2.2.1 (fun b' o' e => (HRW.out.2 b' o' e).2)).grownT (grown_setT w8 t 1 _) (fun b' o' e h => (HRW.out.2 b' o' e).1 (by injection h with h; exact h.symm)))
          have HFX := Lib.hid (show ∀ b' o', (some ⟨b, o, none⟩ : Option Addr) = some ⟨b', o', none⟩ → b' ≠ t ∧ (Value.slice (some ⟨gg, 0, none⟩) (0 + 1) cap).ownBlock ≠ some b' from fun b' o' e => ⟨(HRW.out.2 b' o' e).1, fun h => by
            have h3 : gg = b' := by simpa [Value.ownBlock] using h
            cases e
            rcases r3.out.2.2.2.1 with h2 | h2
            · exact (HRW.out.2 _ _ rfl).2 (by rw [h2, h3])
            · omega⟩)
          have HBU := Lib.hid (HBQ.out.trans ((HBD.out.mono (Nat.le_of_lt htx)).trans r3.out.2.1))
          go_wp2_with fail
          try rw [hU]
          go_roundg (n - (i + 1))
          case measure => have := HGI.out; omega
          case rel => exact ⟨i + 1, _, by simp, by have := HGI.out; omega, by rw [HSX.out]; exact r3.out.1, HBU.out, HRX.out, HFX.out⟩
      · have hmp : 0 < m := by rw [← hm]; exact List.length_pos_iff.2 hO0
        have hm0b : ((m : Int) == 0) = false := by simp; omega
        have cA := fun U (h : Below W.heap.size W U) => trail_at t V O ov (.slice qo m ko) U (HTW.out.below h) hO0 (by omega)
        obtain ⟨z, hz⟩ : ∃ z, lastP O = z := ⟨_, rfl⟩
        simp only [hz] at cA
        have HSZ := Lib.hid (show onceM (a ++ l.take (i + 1)) = if (⟨px, py⟩ : Pt) ≠ z then O ++ [⟨px, py⟩] else O by rw [HSN.out, hz]; simp only [hO0, false_or])
        obtain ⟨zx, zy⟩ := z
        unfold ptV at cA
        dsimp only at cA
        have CA := Lib.hid cA
        have HCC := Lib.hid (fun U (h : Below W.heap.size W U) => show (U.cell? ⟨t, 1, none⟩ = some (.slice qo m ko) ∧ U.cell? ⟨wr.heap.size, 0, none⟩ = some (.int .i64 px) ∧ U.cell? ⟨wr.heap.size, 1, none⟩ = some (.int .i64 py)) ∧ Below W.heap.size W U from
          ⟨⟨(h.cell (p := ⟨t, 1, none⟩) htw).trans c1, (h.cell (p := ⟨wr.heap.size, 0, none⟩) (by show wr.heap.size < W.heap.size; omega)).trans x0, (h.cell (p := ⟨wr.heap.size, 1, none⟩) (by show wr.heap.size < W.heap.size; omega)).trans x1⟩, h⟩)
        have G0 := Lib.hid ((Below.refl W.heap.size W).drew)
        have HH := Lib.hid (HCC.out _ G0.out)
        clear cA hz HSN hm hO0
        by_cases hpz : px = zx ∧ py = zy
        · obtain ⟨rfl, rfl⟩ := hpz
          have HSX := Lib.hid (show onceM (a ++ l.take (i + 1)) = O by rw [HSZ.out, if_neg (by simp)])
          go_wp2_with (rw [hW])
          try rw [hW]
          go_region_held3 (fun w' => (w'.cell? ⟨t, 1, none⟩ = some (.slice qo m ko) ∧ w'.cell? ⟨wr.heap.size, 0, none⟩ = some (.int .i64 px) ∧ w'.cell? ⟨wr.heap.size, 1, none⟩ = some (.int .i64 py)) ∧ Below W.heap.size W w')
            (first
              | (with_reducible exact HH.out)
              | (with_reducible exact HCC.out _ G1.out))
            ((go_at_call 29; (with_reducible refine Calls.mono (CA.out _ G0.out) ?_); rintro e X ⟨rfl, b3⟩; have G1 := Lib.hid (G0.out.trans (b3.mono G0.out.size)); clear b3))
          go_wp2_with fail
          have HTE := Lib.hid (HTW.out.below G1.out)
          have HBE := Lib.hid (HBW.out.trans (G1.out.mono (Nat.le_of_lt htw)))
          go_roundg (n - (i + 1))
          case measure => have := HGI.out; omega
          case rel => exact ⟨i + 1, _, by simp, by have := HGI.out; omega, by rw [HSX.out]; exact HTE.out, HBE.out, HRW.out.1.on G1.out, HRW.out.2⟩
        · have HSX := Lib.hid (show onceM (a ++ l.take (i + 1)) = O ++ [⟨px, py⟩] by rw [HSZ.out, if_pos (fun e => hpz (by cases e; exact ⟨rfl, rfl⟩))])
          by_cases hx : px = zx
          · subst hx
            have hyb : (py == zy) = false := by simpa using (fun h => hpz ⟨rfl, h⟩ : ¬ py = zy)
            clear hpz
            go_wp2_with (rw [hW])
            try rw [hW]
            go_region_held3 (fun w' => (w'.cell? ⟨t, 1, none⟩ = some (.slice qo m ko) ∧ w'.cell? ⟨wr.heap.size, 0, none⟩ = some (.int .i64 px) ∧ w'.cell? ⟨wr.heap.size, 1, none⟩ = some (.int .i64 py)) ∧ Below W.heap.size W w')
              (first
                | (with_reducible exact HH.out)
                | (with_reducible exact HCC.out _ G1.out))
              ((go_at_call 29; (with_reducible refine Calls.mono (CA.out _ G0.out) ?_); rintro e X ⟨rfl, b3⟩; have G1 := Lib.hid (G0.out.trans (b3.mono G0.out.size)); clear b3))
            have HTQ := Lib.hid (HTW.out.below G1.out)
            have HBQ := Lib.hid (HBW.out.trans (G1.out.mono (Nat.le_of_lt htw)))
            have HRQ := Lib.hid (HRW.out.1.on G1.out)
            obtain ⟨⟨g1, f0, f1⟩, -⟩ := HCC.out _ G1.out
            have hXs0 : W.heap.size ≤ X.heap.size := G1.out.size

            have htx := HTQ.out.box.lt
            have HTX := Lib.hid ((HTQ.out.alloc (.cells #[.int .i64 px, .int .i64 py] 42)).drew)
            have HOW := Lib.hid (show (X.alloc (.cells #[.int .i64 px, .int .i64 py] 42)).drew.ownsRow (t + 1) 42 2 (.slice qo m ko) m (ptRow O) by have h := HTX.out.pts; rw [HM.out] at h; exact h)
            have HNW := Lib.hid (show ∀ j u, [(.int .i64 px : Value), .int .i64 py][j]? = some u → (X.alloc (.cells #[.int .i64 px, .int .i64 py] 42)).drew.cell? ((⟨X.heap.size, 0, none⟩ : Addr).add j) = some u from two_new X 42 _ _)
            have HBD := Lib.hid (show Below X.heap.size X (X.alloc (.cells #[.int .i64 px, .int .i64 py] 42)).drew from (below_new X _).drew)
            have hxl : t + 1 ≤ (X.alloc (.cells #[.int .i64 px, .int .i64 py] 42)).drew.heap.size := Nat.le_trans htx HBD.out.size
            have hxm : m + 1 ≤ maxLen := by unfold maxLen; omega
            have hxb : (m + 1) * 16 ≤ 140737488355328 := by omega
            go_wp2_with fail
            go_region_law (refine step_append_lies _ (by rfl) _ _ _ (by rfl) (t + 1) 42 i0 (.agg #[.int .i64 0, .int .i64 0]) 2 16 Try.underlying47 hi0 hz0 hz1 hz2 rfl (by omega) _ m (ptRow O) (by rfl) HOW.out ⟨X.heap.size, 0, none⟩ 1 1 [.int .i64 px, .int .i64 py] (by rfl) (by rfl) HNW.out (by simp [Value.oneCell']) (by omega) hxm hxb hxl (X.heap.size + 1) (by simp) ?_
                           intro gg cap w8 hown8 hgrow8 hor8 hlt8
                           obtain ⟨⟨r1, r2⟩, U, hU, r3, r4, r5⟩ := Trl.more (H := X.heap.size + 1) HTX.out ⟨px, py⟩ hgrow8 hor8 (by simp) (by rw [HM.out]; exact hown8)
                           rw [HM.out] at hU r3
                           replace r3 := Lib.hid (And.intro r3 (And.intro r4 (And.intro hgrow8 (And.intro hor8 r5))))
                           clear hown8 hgrow8 hor8 hlt8 r4 r5)
            all_goals
              have HRX := Lib.hid (show RdV U U.heap.size (some ⟨b, o, none⟩) (ptRow l) from by
                rw [← hU]
                exact ((HRQ.out.on HBD.out).grownT r3.out.2.2.1 (fun b' o' e => (HRW.out.2 b' o' e).2)).grownT (grown_setT w8 t 1 _) (fun b' o' e h => (HRW.out.2 b' o' e).1 (by injection h with h; exact h.symm)))
              have HFX := Lib.hid (show ∀ b' o', (some ⟨b, o, none⟩ : Option Addr) = some ⟨b', o', none⟩ → b' ≠ t ∧ (Value.slice (some ⟨gg, 0, none⟩) (m + 1) cap).ownBlock ≠ some b' from fun b' o' e => ⟨(HRW.out.2 b' o' e).1, fun h => by
                have h3 : gg = b' := by simpa [Value.ownBlock] using h
                cases e
                rcases r3.out.2.2.2.1 with h2 | h2
                · exact (HRW.out.2 _ _ rfl).2 (by rw [h2, h3])
                · omega⟩)
              have HBU := Lib.hid (HBQ.out.trans ((HBD.out.mono (Nat.le_of_lt htx)).trans r3.out.2.1))
              go_wp2_with fail
              try rw [hU]
              go_roundg (n - (i + 1))
              case measure => have := HGI.out; omega
              case rel => exact ⟨i + 1, _, by simp, by have := HGI.out; omega, by rw [HSX.out]; exact r3.out.1, HBU.out, HRX.out, HFX.out⟩
          · have hxb : (px == zx) = false := by simpa using hx
            clear hpz
            go_wp2_with (rw [hW])
            try rw [hW]
            go_region_held3 (fun w' => (w'.cell? ⟨t, 1, none⟩ = some (.slice qo m ko) ∧ w'.cell? ⟨wr.heap.size, 0, none⟩ = some (.int .i64 px) ∧ w'.cell? ⟨wr.heap.size, 1, none⟩ = some (.int .i64 py)) ∧ Below W.heap.size W w')
              (first
                | (with_reducible exact HH.out)
                | (with_reducible exact HCC.out _ G1.out))
              ((go_at_call 29; (with_reducible refine Calls.mono (CA.out _ G0.out) ?_); rintro e X ⟨rfl, b3⟩; have G1 := Lib.hid (G0.out.trans (b3.mono G0.out.size)); clear b3))
            have HTQ := Lib.hid (HTW.out.below G1.out)
            have HBQ := Lib.hid (HBW.out.trans (G1.out.mono (Nat.le_of_lt htw)))
            have HRQ := Lib.hid (HRW.out.1.on G1.out)
            obtain ⟨⟨g1, f0, f1⟩, -⟩ := HCC.out _ G1.out
            have hXs0 : W.heap.size ≤ X.heap.size := G1.out.size

            have htx := HTQ.out.box.lt
            have HTX := Lib.hid ((HTQ.out.alloc (.cells #[.int .i64 px, .int .i64 py] 42)).drew)
            have HOW := Lib.hid (show (X.alloc (.cells #[.int .i64 px, .int .i64 py] 42)).drew.ownsRow (t + 1) 42 2 (.slice qo m ko) m (ptRow O) by have h := HTX.out.pts; rw [HM.out] at h; exact h)
            have HNW := Lib.hid (show ∀ j u, [(.int .i64 px : Value), .int .i64 py][j]? = some u → (X.alloc (.cells #[.int .i64 px, .int .i64 py] 42)).drew.cell? ((⟨X.heap.size, 0, none⟩ : Addr).add j) = some u from two_new X 42 _ _)
            have HBD := Lib.hid (show Below X.heap.size X (X.alloc (.cells #[.int .i64 px, .int .i64 py] 42)).drew from (below_new X _).drew)
            have hxl : t + 1 ≤ (X.alloc (.cells #[.int .i64 px, .int .i64 py] 42)).drew.heap.size := Nat.le_trans htx HBD.out.size
            have hxm : m + 1 ≤ maxLen := by unfold maxLen; omega
            have hxb : (m + 1) * 16 ≤ 140737488355328 := by omega
            go_wp2_with fail
            go_region_law (refine step_append_lies _ (by rfl) _ _ _ (by rfl) (t + 1) 42 i0 (.agg #[.int .i64 0, .int .i64 0]) 2 16 Try.underlying47 hi0 hz0 hz1 hz2 rfl (by omega) _ m (ptRow O) (by rfl) HOW.out ⟨X.heap.size, 0, none⟩ 1 1 [.int .i64 px, .int .i64 py] (by rfl) (by rfl) HNW.out (by simp [Value.oneCell']) (by omega) hxm hxb hxl (X.heap.size + 1) (by simp) ?_
                           intro gg cap w8 hown8 hgrow8 hor8 hlt8
                           obtain ⟨⟨r1, r2⟩, U, hU, r3, r4, r5⟩ := Trl.more (H := X.heap.size + 1) HTX.out ⟨px, py⟩ hgrow8 hor8 (by simp) (by rw [HM.out]; exact hown8)
                           rw [HM.out] at hU r3
                           replace r3 := Lib.hid (And.intro r3 (And.intro r4 (And.intro hgrow8 (And.intro hor8 r5))))
                           clear hown8 hgrow8 hor8 hlt8 r4 r5)
            all_goals
              have HRX := Lib.hid (show RdV U U.heap.size (some ⟨b, o, none⟩) (ptRow l) from by
                rw [← hU]
                exact ((HRQ.out.on HBD.out).grownT r3.out.2.2.1 (fun b' o' e => (HRW.out.2 b' o' e).2)).grownT (grown_setT w8 t 1 _) (fun b' o' e h => (HRW.out.2 b' o' e).1 (by injection h with h; exact h.symm)))
              have HFX := Lib.hid (show ∀ b' o', (some ⟨b, o, none⟩ : Option Addr) = some ⟨b', o', none⟩ → b' ≠ t ∧ (Value.slice (some ⟨gg, 0, none⟩) (m + 1) cap).ownBlock ≠ some b' from fun b' o' e => ⟨(HRW.out.2 b' o' e).1, fun h => by
                have h3 : gg = b' := by simpa [Value.ownBlock] using h
                cases e
                rcases r3.out.2.2.2.1 with h2 | h2
                · exact (HRW.out.2 _ _ rfl).2 (by rw [h2, h3])
                · omega⟩)
              have HBU := Lib.hid (HBQ.out.trans ((HBD.out.mono (Nat.le_of_lt htx)).trans r3.out.2.1))
              go_wp2_with fail
              try rw [hU]
              go_roundg (n - (i + 1))
              case measure => have := HGI.out; omega
              case rel => exact ⟨i + 1, _, by simp, by have := HGI.out; omega, by rw [HSX.out]; exact r3.out.1, HBU.out, HRX.out, HFX.out⟩
    · obtain rfl : i = n := by omega
      have hall : l.take i = l := by rw [← HN.out]; exact List.take_length
      rw [hall] at hT
      have HE := Lib.hid (And.intro hT hB)
      have hil : ¬ (i : Int) < (i : Int) := by omega
      clear hT hB hr hf hall
      go_wp2_with fail
      go_end0
      exact ⟨rfl, _, HE.out.1, HE.out.2⟩
end Go.Proofs.Ytbgjpmijegeeiaa
/- Paths, the program's own: the line that a trail goes ends. -/

namespace Go.Proofs.Ytbgjpmijegeeiaa
open Go.RowKit

theorem Lv.all_snocE (V : List Lv) (x : Lv) : Lv.all (V ++ [x]) = Lv.all V ++ [x.ln] := by simp [Lv.all]
/-- points without repeats as a line -/
def lineO (O : List Pt) (closed : Bool) : List Pt := if closed = true ∧ 1 < O.length ∧ O.getD 0 pt0 = lastP O then O.take (O.length - 1) else O
def flushO (O : List Pt) (closed : Bool) : List Ln := if 1 < (lineO O closed).length then [⟨lineO O closed, closed⟩] else []
theorem flushM_once (now : List Pt) (closed : Bool) : flushM now closed = flushO (onceM now) closed := rfl

/-- a trail whose line has ended -/
def Ended (t : Nat) (V : List Lv) (O : List Pt) (ov : Value) (closed : Bool) (w w' : World) : Prop := ∃ V' ov', Lv.all V' = Lv.all V ++ flushO O closed ∧ V'.length ≤ V.length + 1 ∧ Trl w' t V' [] ov' (.slice none 0 0) ∧ Below t w w' ∧ KeepK t ov w w'

set_option maxRecDepth 10000 in
set_option maxHeartbeats 12800000 in
theorem trail_end (t : Nat) (V : List Lv) (O : List Pt) (ov nv : Value) (closed : Bool) (w : World) (h : Trl w t V O ov nv) (hO : O.length ≤ 1073741824) (hV : V.length ≤ 1073741824) :
    Calls Try.prog 19 #[.pointer (some ⟨t, 0, none⟩), .bool closed] w fun e w' => e = .returned (.tuple #[]) ∧ Ended t V O ov closed w w' := by
  obtain ⟨j0, hj0, hy0, hy1, hy2⟩ := info_parts info_ln
  obtain ⟨W, hW, hT, hown, bW, hWs, hKK⟩ := h.cut
  have HKK := Lib.hid (And.intro hKK (Nat.le_of_eq hWs.symm))
  obtain ⟨q, k, rfl, hk, -, -⟩ := RdV.ofOwnK h.pts
  obtain ⟨vn, hvn⟩ : ∃ vn, V.length = vn := ⟨_, rfl⟩
  have HVN := Lib.hid hvn
  have hl1 := h.lines.1
  rw [hvn] at hl1
  obtain ⟨qv, kv, rfl, -, -, -⟩ := RdV.ofOwnK hl1
  obtain ⟨⟨c0, c1⟩, c2, c3⟩ := Box.pair h.box
  obtain ⟨⟨d0, d1⟩, d2, d3⟩ := Box.pair hT.box
  have hrW : RdV W W.heap.size q (ptRow O) := by
    obtain ⟨q', k', e', -, -, h'⟩ := RdV.ofOwnK hown
    cases e'
    exact h'
  have hT0 : V.length ≤ V.length := Nat.le_refl _
  obtain ⟨R, hR⟩ : ∃ R, lineO O closed = R := ⟨_, rfl⟩
  have hfl : flushO O closed = if 1 < R.length then [⟨R, closed⟩] else [] := by unfold flushO; rw [hR]
  have HFL := Lib.hid hfl
  unfold lineO lastP at hR
  have hpp : ∀ j, (hj : j < O.length) → ∃ b o, q = some ⟨b, o, none⟩ ∧ b < W.heap.size ∧ W.cell? ⟨b, o + j * 2, none⟩ = some (.int .i64 (O.getD j pt0).x) ∧ W.cell? ⟨b, o + j * 2 + 1, none⟩ = some (.int .i64 (O.getD j pt0).y) := fun j hj => by
    rw [getD_get (by omega)]
    exact hrW.pt (by omega)
  obtain ⟨m, hm⟩ : ∃ m, O.length = m := ⟨_, rfl⟩
  have HM := Lib.hid hm
  have HTW := Lib.hid (And.intro hT bW)
  have htw := hT.box.lt
  rw [hm] at hown hk hR hO c1 hpp
  rw [hvn] at hV
  have HOW := Lib.hid hown
  clear h hT hown bW hrW hfl hm hWs hT0 hvn hKK hl1
  by_cases hcl : closed = true ∧ 1 < m
  · obtain ⟨rfl, h1⟩ := hcl
    obtain ⟨b, o, rfl, hb0, e0, e1⟩ := hpp 0 (by omega)
    obtain ⟨b', o', e', -, f0, f1⟩ := hpp (m - 1) (by omega)
    cases e'
    simp only [Nat.zero_mul, Nat.add_zero] at e0 e1
    have m1 : (1 : Int) < (m : Int) := by omega
    have m2 : IntKind.i64.wrap ((m : Int) - 1) = (m : Int) - 1 := IntWalk.i64_in _ (by omega)
    have m3 : 0 ≤ (m : Int) - 1 ∧ (m : Int) - 1 < (m : Int) := by omega
    have m4 : ((m : Int) - 1).toNat = m - 1 := by omega
    have m5 : 0 < m := by omega
    have m6 : (m : Int) - 1 ≤ (k : Int) := by omega
    generalize O.getD 0 pt0 = p at e0 e1 hR
    generalize O.getD (m - 1) pt0 = p' at f0 f1 hR
    by_cases hpq : p = p'
    · rw [if_pos ⟨rfl, h1, hpq⟩] at hR
      subst hpq
      obtain ⟨x, y⟩ := p
      dsimp only at e0 e1 f0 f1
      obtain ⟨j, hj⟩ : ∃ j, m - 1 = j := ⟨_, rfl⟩
      rw [hj] at hR
      have HTK := Lib.hid (show R.length = j ∧ W.ownsRow (t + 1) 42 2 (.slice (some ⟨b, o, none⟩) j k) j (ptRow R) from by
        subst hR
        refine ⟨by rw [List.length_take, HM.out]; omega, ?_⟩
        have h := own_take HOW.out (m := j) (by omega) (by omega)
        rwa [ptRow_take] at h)
      rw [hj] at m4 f0 f1
      have m8 : (j : Int) ≤ (k : Int) := by omega
      clear hpp hR
      by_cases h2 : 1 < j
      · have m9 : (1 : Int) < (j : Int) := by omega
        have HFE := Lib.hid (show flushO O true = [⟨R, true⟩] by rw [HFL.out, if_pos (by rw [HTK.out.1]; exact h2)])
        go_enter Try.func19, Try.ntmps19
        go_wp2_with (rw [hW])
        try rw [hW]
        go_quiet (fail)
        have HX := Lib.hid (And.intro (HTW.out.1.below (below_figE (Below.refl W.heap.size W) nq)) (And.intro (HTW.out.2 t (Nat.le_refl t)) (show (W.drewN nq).ownsRow (t + 1) 42 2 (.slice (some ⟨b, o, none⟩) j k) j (ptRow R) from HTK.out.2)))
        have x0 : (W.drewN nq).cell? ⟨t, 0, none⟩ = some (.slice qv vn kv) := d0
        obtain ⟨X, hX⟩ : ∃ X, W.drewN nq = X := ⟨_, rfl⟩
        have bX : Below W.heap.size W X := by rw [← hX]; exact below_figE (Below.refl _ _) nq
        have HBX := Lib.hid bX
        rw [hX] at HX x0 ⊢
        clear hX bX
        have htx := HX.out.1.box.lt
        go_wp2_with (at_builtin; refine wpList_append_own _ rfl _ _ 23 rfl (t + 1) 57 j0 (.agg #[.slice none 0 0, .bool false]) 2 32 Try.underlying23 hj0 hy0 hy1 hy2 rfl (by decide) _ vn _ rfl ((show X.ownsRow (t + 1) 57 2 (.slice qv vn kv) vn (lvRow V) from by have h := HX.out.1.lines.1; rw [HVN.out] at h; exact h).alloc _) ⟨X.heap.size, 0, none⟩ 1 1 [.slice (some ⟨b, o, none⟩) j k, .bool true] rfl rfl (two_new _ _ _ _) (by simp [Value.oneCell']) (by unfold maxLen; omega) (by omega) (by simp; omega) ?_; intro v3 w3 hown3 hgrow3 _
                     go_loud (
                     obtain ⟨q3, k3, hv3, -, -, -⟩ := RdV.ofOwnK hown3
                     subst hv3
                     obtain ⟨⟨r1, r2⟩, U, hU, r3, r4, r5⟩ := Trl.line (x := ⟨some ⟨b, o, none⟩, k, R, true⟩) (HX.out.1.alloc _) (by
                       show (X.alloc _).ownsRow (t + 1) 42 2 (.slice (some ⟨b, o, none⟩) (List.length R) k) (List.length R) (ptRow R)
                       rw [HTK.out.1]
                       exact HX.out.2.2.alloc _) hgrow3 (by
                       rw [HVN.out]
                       unfold lvCells
                       dsimp only
                       rw [HTK.out.1]
                       exact hown3)
                     replace r3 := Lib.hid (And.intro r3 (And.intro r4 r5))
                     clear hown3 hgrow3 r4 r5))
        try rw [hU]
        have HEE := Lib.hid (HX.out.2.1.trans ((HBX.out.mono (Nat.le_of_lt htw)).trans (((below_new X _).mono (Nat.le_of_lt htx)).trans r3.out.2.1)))
        have HEK := Lib.hid (HKK.out.1.trans HKK.out.2 ((KeepK.of (HBX.out.trans ((below_new X _).mono HBX.out.size))).trans (Nat.le_trans HBX.out.size (below_new X _).size) r3.out.2.2))
        go_end0
        exact ⟨rfl, _, _, by rw [Lv.all_snocE, HFE.out]; rfl, by simp, r3.out.1, HEE.out, HEK.out⟩
      · have m9 : ¬ (1 : Int) < (j : Int) := by omega
        have HFE := Lib.hid (show flushO O true = [] by rw [HFL.out, if_neg (by rw [HTK.out.1]; exact h2)])
        go_enter Try.func19, Try.ntmps19
        go_wp2_with (rw [hW])
        try rw [hW]
        go_quiet (fail)
        go_wp2_with fail
        go_end0
        exact ⟨rfl, V, _, by rw [HFE.out, List.append_nil], by omega, HTW.out.1.below (below_figE (Below.refl W.heap.size W) nq), (HTW.out.2 t (Nat.le_refl t)).trans ((below_figE (Below.refl W.heap.size W) nq).mono (Nat.le_of_lt htw)), HKK.out.1.trans HKK.out.2 (KeepK.of (below_figE (Below.refl W.heap.size W) nq))⟩
    · rw [if_neg (fun h => hpq h.2.2)] at hR
      subst hR
      have HTK := Lib.hid (show O.length = m ∧ W.ownsRow (t + 1) 42 2 (.slice (some ⟨b, o, none⟩) m k) m (ptRow O) from ⟨HM.out, HOW.out⟩)
      have HFE := Lib.hid (show flushO O true = [⟨O, true⟩] by rw [HFL.out, if_pos (by rw [HM.out]; exact h1)])
      obtain ⟨x, y⟩ := p
      obtain ⟨x', y'⟩ := p'
      dsimp only at e0 e1 f0 f1
      by_cases hx : x = x'
      · subst hx
        have hyb : (y == y') = false := by simpa using (fun h => hpq (by rw [h]) : ¬ y = y')
        clear hpp hpq
        go_enter Try.func19, Try.ntmps19
        go_wp2_with (rw [hW])
        try rw [hW]
        go_quiet (fail)
        have HX := Lib.hid (And.intro (HTW.out.1.below (below_figE (Below.refl W.heap.size W) nq)) (And.intro (HTW.out.2 t (Nat.le_refl t)) (show (W.drewN nq).ownsRow (t + 1) 42 2 (.slice (some ⟨b, o, none⟩) m k) m (ptRow O) from HTK.out.2)))
        have x0 : (W.drewN nq).cell? ⟨t, 0, none⟩ = some (.slice qv vn kv) := d0
        obtain ⟨X, hX⟩ : ∃ X, W.drewN nq = X := ⟨_, rfl⟩
        have bX : Below W.heap.size W X := by rw [← hX]; exact below_figE (Below.refl _ _) nq
        have HBX := Lib.hid bX
        rw [hX] at HX x0 ⊢
        clear hX bX
        have htx := HX.out.1.box.lt
        go_wp2_with (at_builtin; refine wpList_append_own _ rfl _ _ 23 rfl (t + 1) 57 j0 (.agg #[.slice none 0 0, .bool false]) 2 32 Try.underlying23 hj0 hy0 hy1 hy2 rfl (by decide) _ vn _ rfl ((show X.ownsRow (t + 1) 57 2 (.slice qv vn kv) vn (lvRow V) from by have h := HX.out.1.lines.1; rw [HVN.out] at h; exact h).alloc _) ⟨X.heap.size, 0, none⟩ 1 1 [.slice (some ⟨b, o, none⟩) m k, .bool true] rfl rfl (two_new _ _ _ _) (by simp [Value.oneCell']) (by unfold maxLen; omega) (by omega) (by simp; omega) ?_; intro v3 w3 hown3 hgrow3 _
                     go_loud (
                     obtain ⟨q3, k3, hv3, -, -, -⟩ := RdV.ofOwnK hown3
                     subst hv3
                     obtain ⟨⟨r1, r2⟩, U, hU, r3, r4, r5⟩ := Trl.line (x := ⟨some ⟨b, o, none⟩, k, O, true⟩) (HX.out.1.alloc _) (by
                       show (X.alloc _).ownsRow (t + 1) 42 2 (.slice (some ⟨b, o, none⟩) (List.length O) k) (List.length O) (ptRow O)
                       rw [HTK.out.1]
                       exact HX.out.2.2.alloc _) hgrow3 (by
                       rw [HVN.out]
                       unfold lvCells
                       dsimp only
                       rw [HTK.out.1]
                       exact hown3)
                     replace r3 := Lib.hid (And.intro r3 (And.intro r4 r5))
                     clear hown3 hgrow3 r4 r5))
        try rw [hU]
        have HEE := Lib.hid (HX.out.2.1.trans ((HBX.out.mono (Nat.le_of_lt htw)).trans (((below_new X _).mono (Nat.le_of_lt htx)).trans r3.out.2.1)))
        have HEK := Lib.hid (HKK.out.1.trans HKK.out.2 ((KeepK.of (HBX.out.trans ((below_new X _).mono HBX.out.size))).trans (Nat.le_trans HBX.out.size (below_new X _).size) r3.out.2.2))
        go_end0
        exact ⟨rfl, _, _, by rw [Lv.all_snocE, HFE.out]; rfl, by simp, r3.out.1, HEE.out, HEK.out⟩
      · have hxb : (x == x') = false := by simpa using hx
        clear hpp hpq
        go_enter Try.func19, Try.ntmps19
        go_wp2_with (rw [hW])
        try rw [hW]
        go_quiet (fail)
        have HX := Lib.hid (And.intro (HTW.out.1.below (below_figE (Below.refl W.heap.size W) nq)) (And.intro (HTW.out.2 t (Nat.le_refl t)) (show (W.drewN nq).ownsRow (t + 1) 42 2 (.slice (some ⟨b, o, none⟩) m k) m (ptRow O) from HTK.out.2)))
        have x0 : (W.drewN nq).cell? ⟨t, 0, none⟩ = some (.slice qv vn kv) := d0
        obtain ⟨X, hX⟩ : ∃ X, W.drewN nq = X := ⟨_, rfl⟩
        have bX : Below W.heap.size W X := by rw [← hX]; exact below_figE (Below.refl _ _) nq
        have HBX := Lib.hid bX
        rw [hX] at HX x0 ⊢
        clear hX bX
        have htx := HX.out.1.box.lt
        go_wp2_with (at_builtin; refine wpList_append_own _ rfl _ _ 23 rfl (t + 1) 57 j0 (.agg #[.slice none 0 0, .bool false]) 2 32 Try.underlying23 hj0 hy0 hy1 hy2 rfl (by decide) _ vn _ rfl ((show X.ownsRow (t + 1) 57 2 (.slice qv vn kv) vn (lvRow V) from by have h := HX.out.1.lines.1; rw [HVN.out] at h; exact h).alloc _) ⟨X.heap.size, 0, none⟩ 1 1 [.slice (some ⟨b, o, none⟩) m k, .bool true] rfl rfl (two_new _ _ _ _) (by simp [Value.oneCell']) (by unfold maxLen; omega) (by omega) (by simp; omega) ?_; intro v3 w3 hown3 hgrow3 _
                     go_loud (
                     obtain ⟨q3, k3, hv3, -, -, -⟩ := RdV.ofOwnK hown3
                     subst hv3
                     obtain ⟨⟨r1, r2⟩, U, hU, r3, r4, r5⟩ := Trl.line (x := ⟨some ⟨b, o, none⟩, k, O, true⟩) (HX.out.1.alloc _) (by
                       show (X.alloc _).ownsRow (t + 1) 42 2 (.slice (some ⟨b, o, none⟩) (List.length O) k) (List.length O) (ptRow O)
                       rw [HTK.out.1]
                       exact HX.out.2.2.alloc _) hgrow3 (by
                       rw [HVN.out]
                       unfold lvCells
                       dsimp only
                       rw [HTK.out.1]
                       exact hown3)
                     replace r3 := Lib.hid (And.intro r3 (And.intro r4 r5))
                     clear hown3 hgrow3 r4 r5))
        try rw [hU]
        have HEE := Lib.hid (HX.out.2.1.trans ((HBX.out.mono (Nat.le_of_lt htw)).trans (((below_new X _).mono (Nat.le_of_lt htx)).trans r3.out.2.1)))
        have HEK := Lib.hid (HKK.out.1.trans HKK.out.2 ((KeepK.of (HBX.out.trans ((below_new X _).mono HBX.out.size))).trans (Nat.le_trans HBX.out.size (below_new X _).size) r3.out.2.2))
        go_end0
        exact ⟨rfl, _, _, by rw [Lv.all_snocE, HFE.out]; rfl, by simp, r3.out.1, HEE.out, HEK.out⟩
  · rw [if_neg (fun h => hcl ⟨h.1, h.2.1⟩)] at hR
    subst hR
    by_cases h1 : 1 < m
    · have hc0 : closed = false := by
        cases closed with
        | false => rfl
        | true => exact absurd ⟨rfl, h1⟩ hcl
      subst hc0
      have m1 : (1 : Int) < (m : Int) := by omega
      have HTK := Lib.hid (show O.length = m ∧ W.ownsRow (t + 1) 42 2 (.slice q m k) m (ptRow O) from ⟨HM.out, HOW.out⟩)
      have HFE := Lib.hid (show flushO O false = [⟨O, false⟩] by rw [HFL.out, if_pos (by rw [HM.out]; exact h1)])
      clear hpp hcl
      go_enter Try.func19, Try.ntmps19
      go_wp2_with (rw [hW])
      try rw [hW]
      go_quiet (fail)
      have HX := Lib.hid (And.intro (HTW.out.1.below (below_figE (Below.refl W.heap.size W) nq)) (And.intro (HTW.out.2 t (Nat.le_refl t)) (show (W.drewN nq).ownsRow (t + 1) 42 2 (.slice (q) m k) m (ptRow O) from HTK.out.2)))
      have x0 : (W.drewN nq).cell? ⟨t, 0, none⟩ = some (.slice qv vn kv) := d0
      obtain ⟨X, hX⟩ : ∃ X, W.drewN nq = X := ⟨_, rfl⟩
      have bX : Below W.heap.size W X := by rw [← hX]; exact below_figE (Below.refl _ _) nq
      have HBX := Lib.hid bX
      rw [hX] at HX x0 ⊢
      clear hX bX
      have htx := HX.out.1.box.lt
      go_wp2_with (at_builtin; refine wpList_append_own _ rfl _ _ 23 rfl (t + 1) 57 j0 (.agg #[.slice none 0 0, .bool false]) 2 32 Try.underlying23 hj0 hy0 hy1 hy2 rfl (by decide) _ vn _ rfl ((show X.ownsRow (t + 1) 57 2 (.slice qv vn kv) vn (lvRow V) from by have h := HX.out.1.lines.1; rw [HVN.out] at h; exact h).alloc _) ⟨X.heap.size, 0, none⟩ 1 1 [.slice (q) m k, .bool false] rfl rfl (two_new _ _ _ _) (by simp [Value.oneCell']) (by unfold maxLen; omega) (by omega) (by simp; omega) ?_; intro v3 w3 hown3 hgrow3 _
                   go_loud (
                   obtain ⟨q3, k3, hv3, -, -, -⟩ := RdV.ofOwnK hown3
                   subst hv3
                   obtain ⟨⟨r1, r2⟩, U, hU, r3, r4, r5⟩ := Trl.line (x := ⟨q, k, O, false⟩) (HX.out.1.alloc _) (by
                     show (X.alloc _).ownsRow (t + 1) 42 2 (.slice (q) (List.length O) k) (List.length O) (ptRow O)
                     rw [HTK.out.1]
                     exact HX.out.2.2.alloc _) hgrow3 (by
                     rw [HVN.out]
                     unfold lvCells
                     dsimp only
                     rw [HTK.out.1]
                     exact hown3)
                   replace r3 := Lib.hid (And.intro r3 (And.intro r4 r5))
                   clear hown3 hgrow3 r4 r5))
      try rw [hU]
      have HEE := Lib.hid (HX.out.2.1.trans ((HBX.out.mono (Nat.le_of_lt htw)).trans (((below_new X _).mono (Nat.le_of_lt htx)).trans r3.out.2.1)))
      have HEK := Lib.hid (HKK.out.1.trans HKK.out.2 ((KeepK.of (HBX.out.trans ((below_new X _).mono HBX.out.size))).trans (Nat.le_trans HBX.out.size (below_new X _).size) r3.out.2.2))
      go_end0
      exact ⟨rfl, _, _, by rw [Lv.all_snocE, HFE.out]; rfl, by simp, r3.out.1, HEE.out, HEK.out⟩
    · have m1 : ¬ (1 : Int) < (m : Int) := by omega
      have m7 : decide ((1 : Int) < (m : Int)) = false := decide_eq_false m1
      have HFE := Lib.hid (show flushO O closed = [] by rw [HFL.out, if_neg (by rw [HM.out]; exact h1)])
      clear hpp hcl
      cases closed with
      | false =>
        go_enter Try.func19, Try.ntmps19
        go_wp2_with (rw [hW])
        try rw [hW]
        go_quiet (fail)
        go_wp2_with fail
        go_end0
        exact ⟨rfl, V, _, by rw [HFE.out, List.append_nil], by omega, HTW.out.1.below (below_figE (Below.refl W.heap.size W) nq), (HTW.out.2 t (Nat.le_refl t)).trans ((below_figE (Below.refl W.heap.size W) nq).mono (Nat.le_of_lt htw)), HKK.out.1.trans HKK.out.2 (KeepK.of (below_figE (Below.refl W.heap.size W) nq))⟩
      | true =>
        go_enter Try.func19, Try.ntmps19
        go_wp2_with (rw [hW])
        try rw [hW]
        go_quiet (fail)
        go_wp2_with fail
        go_end0
        exact ⟨rfl, V, _, by rw [HFE.out, List.append_nil], by omega, HTW.out.1.below (below_figE (Below.refl W.heap.size W) nq), (HTW.out.2 t (Nat.le_refl t)).trans ((below_figE (Below.refl W.heap.size W) nq).mono (Nat.le_of_lt htw)), HKK.out.1.trans HKK.out.2 (KeepK.of (below_figE (Below.refl W.heap.size W) nq))⟩
end Go.Proofs.Ytbgjpmijegeeiaa
