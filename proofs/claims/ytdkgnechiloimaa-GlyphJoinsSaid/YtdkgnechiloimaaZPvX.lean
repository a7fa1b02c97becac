/- Paths, the program's own: Uses, points, fit, wrong. -/
import Derived.Test.YtdkgnechiloimaaZPtX
import Derived.Test.YtdkgnechiloimaaZAgX
import Derived.Test.YtdkgnechiloimaaZAfX
import Derived.BigRegion
namespace Go.Proofs.Ytdkgnechiloimaa
open Go.RowKit

set_option maxRecDepth 10000 in
set_option maxHeartbeats 1600000 in
theorem path_Uses (op : Int) (w : World) :
    Calls Try.prog 19 #[.int .i64 op] w fun e w' => e = .returned (.int .i64 (usesM op)) ∧ w = w' := by
  by_cases h : op = 1 ∨ op = 2 ∨ op = 3 ∨ op = 4 ∨ op = 5
  · rcases h with rfl | rfl | rfl | rfl | rfl
    all_goals
      go_enter Try.func19, Try.ntmps19
      go_wp2_with fail
      go_ret
      exact ⟨rfl, rfl⟩
  · have hu : usesM op = -1 := by unfold usesM; repeat' split; all_goals omega
    have h1 : (op == 1) = false := by simp; omega
    have h2 : (op == 2) = false := by simp; omega
    have h3 : (op == 3) = false := by simp; omega
    have h4 : (op == 4) = false := by simp; omega
    have h5 : (op == 5) = false := by simp; omega
    rw [hu]
    clear h hu
    go_enter Try.func19, Try.ntmps19
    go_wp2_with fail
    go_ret
    exact ⟨rfl, rfl⟩

/-- a step's points: those that it uses -/
def ptsU (s : St) : List Pt := [s.p0, s.p1, s.p2].take (usesM s.op).toNat
theorem ptsU_length (s : St) : (ptsU s).length = (usesM s.op).toNat := by
  have h := usesM_in s.op
  unfold ptsU
  rw [List.length_take]
  simp
  omega
theorem ptRow_takeU (l : List Pt) (m : Nat) : (ptRow l).take (m * 2) = ptRow (l.take m) := by
  induction l generalizing m with
  | nil => simp [ptRow]
  | cons p l ih =>
    cases m with
    | zero => simp [ptRow]
    | succ m =>
      have e : ptRow (p :: l) = .int .i64 p.x :: .int .i64 p.y :: ptRow l := rfl
      rw [e, show (m + 1) * 2 = m * 2 + 1 + 1 by omega, List.take_succ_cons, List.take_succ_cons, ih m]
      rfl
/-- they lie in the step's box, behind its kind -/
theorem pts_rd {w : World} {g : Nat} {s : St} (h : Box w g 49 (stCells s)) : RdV w w.heap.size (some ⟨g, 1, none⟩) (ptRow (ptsU s)) := by
  have h0 : RdV w w.heap.size (some ⟨g, 1, none⟩) (ptRow [s.p0, s.p1, s.p2]) := fun _ => ⟨g, 1, rfl, h.lt, fun j hj => by
    rw [Nat.add_comm]
    exact h.cell (j + 1) (by
      have e : stCells s = .int .i64 s.op :: ptRow [s.p0, s.p1, s.p2] := rfl
      rw [e, List.getElem?_cons_succ]
      exact List.getElem?_eq_getElem hj)⟩
  unfold ptsU
  rw [← ptRow_takeU]
  exact h0.take _
theorem Box.st {w : World} {g : Nat} {s : St} (h : Box w g 49 (stCells s)) : w.cell? ⟨g, 0, none⟩ = some (.int .i64 s.op) ∧ w.cell? ⟨g, 1, none⟩ = some (.int .i64 s.p0.x) ∧ w.cell? ⟨g, 2, none⟩ = some (.int .i64 s.p0.y) ∧ w.cell? ⟨g, 3, none⟩ = some (.int .i64 s.p1.x) ∧ w.cell? ⟨g, 4, none⟩ = some (.int .i64 s.p1.y) ∧ w.cell? ⟨g, 5, none⟩ = some (.int .i64 s.p2.x) ∧ w.cell? ⟨g, 6, none⟩ = some (.int .i64 s.p2.y) :=
  ⟨h.cell 0 rfl, h.cell 1 rfl, h.cell 2 rfl, h.cell 3 rfl, h.cell 4 rfl, h.cell 5 rfl, h.cell 6 rfl⟩
theorem boxSt (w : World) (s : St) : ∃ W, w.alloc (.cells #[.int .i64 s.op, .int .i64 s.p0.x, .int .i64 s.p0.y, .int .i64 s.p1.x, .int .i64 s.p1.y, .int .i64 s.p2.x, .int .i64 s.p2.y] 49) = W ∧ Box W w.heap.size 49 (stCells s) ∧ Below w.heap.size w W ∧ W.heap.size = w.heap.size + 1 :=
  ⟨_, rfl, Box.new w _ (stCells s), (Below.refl _ w).alloc (Nat.le_refl _) _, by simp⟩

set_option maxRecDepth 10000 in
set_option maxHeartbeats 3200000 in
theorem path_points (s : St) (hu : ¬ usesM s.op < 0) (w W : World) (hW : w.alloc (.cells #[.int .i64 s.op, .int .i64 s.p0.x, .int .i64 s.p0.y, .int .i64 s.p1.x, .int .i64 s.p1.y, .int .i64 s.p2.x, .int .i64 s.p2.y] 49) = W) :
    Calls Try.prog 25 #[stV s] w fun e w' => e = .returned (.slice (some ⟨w.heap.size, 1, none⟩) (usesM s.op).toNat 3) ∧ W = w' := by
  have kW : Box W w.heap.size 49 (stCells s) := by rw [← hW]; exact Box.new w _ (stCells s)
  obtain ⟨d0, -, -, -, -, -, -⟩ := kW.st
  clear kW
  obtain ⟨op, p, q, r⟩ := s
  dsimp only at *
  have h5 : op = 1 ∨ op = 2 ∨ op = 3 ∨ op = 4 ∨ op = 5 := by
    unfold usesM at hu
    repeat' split at hu
    all_goals omega
  clear hu
  unfold stV
  dsimp only
  rcases h5 with rfl | rfl | rfl | rfl | rfl
  · have cU := fun V => path_Uses 1 V
    simp only [show usesM 1 = 1 from rfl] at cU ⊢
    go_enter Try.func25, Try.ntmps25
    go_wp2_with first
      | (go_at_call 19; with_reducible refine Calls.mono (cU _) ?_; rintro e w1 ⟨rfl, rfl⟩)
      | (rw [hW])
    go_ret
    exact ⟨rfl, rfl⟩
  · have cU := fun V => path_Uses 2 V
    simp only [show usesM 2 = 1 from rfl] at cU ⊢
    go_enter Try.func25, Try.ntmps25
    go_wp2_with first
      | (go_at_call 19; with_reducible refine Calls.mono (cU _) ?_; rintro e w1 ⟨rfl, rfl⟩)
      | (rw [hW])
    go_ret
    exact ⟨rfl, rfl⟩
  · have cU := fun V => path_Uses 3 V
    simp only [show usesM 3 = 2 from rfl] at cU ⊢
    go_enter Try.func25, Try.ntmps25
    go_wp2_with first
      | (go_at_call 19; with_reducible refine Calls.mono (cU _) ?_; rintro e w1 ⟨rfl, rfl⟩)
      | (rw [hW])
    go_ret
    exact ⟨rfl, rfl⟩
  · have cU := fun V => path_Uses 4 V
    simp only [show usesM 4 = 3 from rfl] at cU ⊢
    go_enter Try.func25, Try.ntmps25
    go_wp2_with first
      | (go_at_call 19; with_reducible refine Calls.mono (cU _) ?_; rintro e w1 ⟨rfl, rfl⟩)
      | (rw [hW])
    go_ret
    exact ⟨rfl, rfl⟩
  · have cU := fun V => path_Uses 5 V
    simp only [show usesM 5 = 0 from rfl] at cU ⊢
    go_enter Try.func25, Try.ntmps25
    go_wp2_with first
      | (go_at_call 19; with_reducible refine Calls.mono (cU _) ?_; rintro e w1 ⟨rfl, rfl⟩)
      | (rw [hW])
    go_ret
    exact ⟨rfl, rfl⟩

set_option maxRecDepth 10000 in
set_option maxHeartbeats 1600000 in
theorem path_fit (L : List Pt) (A : Option Addr) (c : Nat) (w : World) (hL : RdV w w.heap.size A (ptRow L)) (hl : L.length ≤ 1073741824) :
    Calls Try.prog 27 #[.slice A L.length c] w fun e w' => e = .returned (.bool (decide (FitL L))) ∧ Below w.heap.size w w' := by
  obtain ⟨n, hn⟩ : ∃ n, L.length = n := ⟨_, rfl⟩
  have HN := Lib.hid hn
  have HL := Lib.hid hL
  rw [hn] at hl ⊢
  obtain ⟨r, hr⟩ : ∃ r : Bool, decide (FitL L) = r := ⟨_, rfl⟩
  have HR := Lib.hid hr
  rw [hr]
  clear hn hL hr
  go_enter Try.func27, Try.ntmps27
  go_wp2_with fail
  go_loopg [7] n (fun gh it wr => ∃ i : Nat, it = .int .i64 (i : Int) ∧ gh + i = n ∧ (∀ p ∈ L.take i, FitP p) ∧ Below w.heap.size w wr)
  case atStart => exact ⟨0, rfl, by omega, by simp, Below.refl _ _⟩
  case round =>
    obtain ⟨i, rfl, hg, hok, hB⟩ := hrel
    by_cases hlt : i < n
    · have hlt' : i < L.length := by rw [HN.out]; exact hlt
      obtain ⟨g, o, rfl, hgl, e0, e1⟩ := (HL.out.below hB).pt (i := i) hlt'
      have hil : (i : Int) < (n : Int) := by omega
      obtain ⟨p, hpp⟩ : ∃ p, L[i] = p := ⟨_, rfl⟩
      have HST := Lib.hid (fitL_step hlt' hok)
      have HNO := Lib.hid (fitL_not hlt')
      rw [hpp] at e0 e1 HST HNO
      obtain ⟨d, hd⟩ : ∃ d : Bool, decide (FitP p) = d := ⟨_, rfl⟩
      have cF := fun V => aff_Fits p V
      rw [hd] at cF
      obtain ⟨x, y⟩ := p
      unfold ptV at cF
      dsimp only at e0 e1 cF
      obtain ⟨V0, hV0, k0, c0⟩ := endP wr 24 (.int .i64 x) (.int .i64 y)
      obtain ⟨⟨t0, t1⟩, -⟩ := Box.pair k0
      have CF := Lib.hid cF
      have HB := Lib.hid (hB.trans (c0.mono hB.size))
      have HD := Lib.hid hd
      clear hok hB cF hpp hlt' hd k0 c0
      cases d with
      | true =>
        have HS := Lib.hid (HST.out (of_decide_eq_true HD.out))
        clear HST HNO
        go_wp2_with first
          | (rw [hV0])
          | ((try rw [hV0]); go_at_call 8; with_reducible refine Calls.mono (CF.out _) ?_; rintro e w1 ⟨rfl, b1⟩)
        have hBB := HB.out.trans (b1.mono HB.out.size)
        go_roundg (n - (i + 1))
        case measure => omega
        case rel => exact ⟨i + 1, by simp, by omega, HS.out, hBB⟩
      | false =>
        have HS := Lib.hid (decide_eq_false (HNO.out (of_decide_eq_false HD.out)))
        clear HST HNO
        go_wp2_with first
          | (rw [hV0])
          | ((try rw [hV0]); go_at_call 8; with_reducible refine Calls.mono (CF.out _) ?_; rintro e w1 ⟨rfl, b1⟩)
        have hBB := HB.out.trans (b1.mono HB.out.size)
        go_ret
        rw [← HR.out, HS.out]
        exact ⟨rfl, hBB⟩
    · obtain rfl : i = n := by omega
      have HF := Lib.hid (decide_eq_true (fitL_all (l := L) (by rw [HN.out]; exact hok)))
      have HB := Lib.hid hB
      clear hok hB
      go_wp2_with fail
      go_ret
      rw [← HR.out, HF.out]
      exact ⟨rfl, HB.out⟩
end Go.Proofs.Ytdkgnechiloimaa
/- Paths, the program's own: wrong. -/

namespace Go.Proofs.Ytdkgnechiloimaa
open Go.RowKit

/-- the kind of the step behind which one stands; of none: what must be begun anew -/
def behI (L : List St) (i : Nat) : Int := if i = 0 then 5 else (L.getD (i - 1) st0).op
theorem behI_succ {L : List St} {i : Nat} (hi : i < L.length) : behI L (i + 1) = L[i].op := by simp [behI, List.getD, hi]
theorem behI_five {L : List St} {i : Nat} (h : behI L i = 5) : prevAt L i = none ∨ prevAt L i = some 5 := by
  unfold behI at h
  unfold prevAt
  split at h
  · rename_i h0; rw [if_pos h0]; exact .inl rfl
  · rename_i h0; rw [if_neg h0, h]; exact .inr rfl
theorem behI_not {L : List St} {i : Nat} (h : ¬ behI L i = 5) : ∃ o, prevAt L i = some o ∧ o ≠ 5 := by
  unfold behI at h
  unfold prevAt
  split at h
  · exact absurd rfl h
  · rename_i h0; rw [if_neg h0]; exact ⟨_, rfl, h⟩
theorem fitTo_pts {s : St} {u : Nat} (hu : usesM s.op = (u : Int)) : FitTo s u ↔ FitL (ptsU s) := by
  have h3 := usesM_in s.op
  have e : (usesM s.op).toNat = u := by omega
  have hu3 : u ≤ 3 := by omega
  unfold ptsU
  rw [e]
  constructor
  · intro h p hp
    match u, hu3 with
    | 0, _ => simp at hp
    | 1, _ => simp at hp; subst hp; exact h 0 (by omega)
    | 2, _ => simp at hp; rcases hp with rfl | rfl; exact h 0 (by omega); exact h 1 (by omega)
    | 3, _ => simp at hp; rcases hp with rfl | rfl | rfl; exact h 0 (by omega); exact h 1 (by omega); exact h 2 (by omega)
  · intro h k hk
    match k, u, hu3 with
    | 0, 1, _ => exact h _ (by simp [St.pt])
    | 0, 2, _ => exact h _ (by simp [St.pt])
    | 0, 3, _ => exact h _ (by simp [St.pt])
    | 1, 2, _ => exact h _ (by simp [St.pt])
    | 1, 3, _ => exact h _ (by simp [St.pt])
    | 2, 3, _ => exact h _ (by simp [St.pt])
    | 0, 0, _ => omega
    | 1, 0, _ => omega
    | 1, 1, _ => omega
    | 2, 0, _ => omega
    | 2, 1, _ => omega
    | 2, 2, _ => omega
    | k + 3, _, _ => omega

set_option maxRecDepth 10000 in
set_option maxHeartbeats 6400000 in
theorem path_wrong (L : List St) (A : Option Addr) (c : Nat) (w : World) (hL : RdV w w.heap.size A (stRow L)) (hl : L.length ≤ 4611686018427387904) :
    Calls Try.prog 24 #[.slice A L.length c] w fun e w' => e = .returned (.int .i64 (checkM L)) ∧ Below w.heap.size w w' := by
  obtain ⟨n, hn⟩ : ∃ n, L.length = n := ⟨_, rfl⟩
  obtain ⟨r, hr⟩ : ∃ r, checkM L = r := ⟨_, rfl⟩
  have HN := Lib.hid hn
  have HL := Lib.hid hL
  rw [hn] at hl ⊢
  rw [hr]
  by_cases h200 : 200 < n
  · have hr7 : r = 7 := by rw [← hr]; unfold checkM; rw [if_pos (by omega)]
    subst hr7
    have hi : (200 : Int) < (n : Int) := by omega
    clear hr hn hL
    go_enter Try.func24, Try.ntmps24
    go_wp2_with fail
    go_ret
    exact ⟨rfl, Below.refl _ _⟩
  · have HG := Lib.hid (show checkGo (prevAt L 0) (L.drop 0) = r by rw [← hr]; unfold checkM; rw [if_neg (by omega)]; rfl)
    have hi : ¬ (200 : Int) < (n : Int) := by omega
    clear hr hn hL
    go_enter Try.func24, Try.ntmps24
    go_wp2_with fail
    go_loopg [3, 11] n (fun gh bv it wr => ∃ i : Nat, it = .int .i64 (i : Int) ∧ bv = .int .i64 (behI L i) ∧ gh + i = n ∧ checkGo (prevAt L i) (L.drop i) = r ∧ Below w.heap.size w wr)
    case atStart => exact ⟨0, rfl, rfl, by omega, HG.out, Below.refl _ _⟩
    case round =>
      obtain ⟨i, rfl, rfl, hg, hgo, hB⟩ := hrel
      have HGI := Lib.hid hg
      by_cases hlt : i < n
      · have hlt' : i < L.length := by rw [HN.out]; exact hlt
        obtain ⟨b, o, rfl, hb, e0, e1, e2, e3, e4, e5, e6⟩ := (HL.out.below hB).st (i := i) hlt'
        have hil : (i : Int) < (n : Int) := by omega
        have hst := checkGo_step hlt'
        rw [hgo] at hst
        have hbs := behI_succ hlt'
        have hb5 := behI_five (L := L) (i := i)
        have hbn := behI_not (L := L) (i := i)
        obtain ⟨s, hs⟩ : ∃ s, L[i] = s := ⟨_, rfl⟩
        rw [hs] at e0 e1 e2 e3 e4 e5 e6 hst hbs
        obtain ⟨bh, hbh⟩ : ∃ bh, behI L i = bh := ⟨_, rfl⟩
        rw [hbh] at hb5 hbn ⊢
        obtain ⟨W, hW, kW, bW, hWs⟩ := boxSt wr s
        obtain ⟨W2, hW2, kW2, bW2, hWs2⟩ := boxSt W s
        have cU := fun V => path_Uses s.op V
        have cP := fun (h : ¬ usesM s.op < 0) => path_points s h W W2 hW2
        have cF := path_fit (ptsU s) (some ⟨W.heap.size, 1, none⟩) 3 W2 (pts_rd kW2) (by rw [ptsU_length]; have := usesM_in s.op; omega)
        rw [ptsU_length] at cF
        have hbf := fun (u : Nat) (h : usesM s.op = (u : Int)) => badM_fit (prev := prevAt L i) (s := s) (u := u) h
        have hft := fun (u : Nat) (h : usesM s.op = (u : Int)) => fitTo_pts (s := s) (u := u) h
        have hbno := fun h => badM_no (prev := prevAt L i) (s := s) h
        have hbor := fun h1 h2 => badM_order (prev := prevAt L i) (s := s) h1 h2
        obtain ⟨x0, x1, x2, x3, x4, x5, x6⟩ := kW.st
        have HB := Lib.hid hB
        have HK := Lib.hid (And.intro kW (And.intro bW bW2))
        have hu3 := usesM_in s.op
        obtain ⟨d, hd⟩ : ∃ d : Bool, decide (FitL (ptsU s)) = d := ⟨_, rfl⟩
        rw [hd] at cF
        obtain ⟨op, ⟨p0, p1⟩, ⟨q0, q1⟩, ⟨r0, r1⟩⟩ := s
        dsimp only at e0 e1 e2 e3 e4 e5 e6 x0 x1 x2 x3 x4 x5 x6 hW hW2 cU cP cF hbs hbf hft hbno hbor hu3
        unfold stV at cP
        dsimp only at cP
        obtain ⟨u, hu⟩ : ∃ u, usesM op = u := ⟨_, rfl⟩
        simp only [hu] at cU cP cF hbf hft hbno hbor hu3
        have CU := Lib.hid cU
        have CP := Lib.hid cP
        have CF := Lib.hid cF
        have HST := Lib.hid hst
        have HBS := Lib.hid hbs
        have HBF := Lib.hid hbf
        have HFT := Lib.hid hft
        have HBN := Lib.hid hbno
        have HBO := Lib.hid hbor
        have HB5 := Lib.hid hb5
        have HBX := Lib.hid hbn
        have HD := Lib.hid hd
        clear hst hgo hB cU cP cF hu hs hlt' hbs hbf hft hbno hbor hb5 hbn kW bW kW2 bW2 hWs hWs2 hbh hd
        by_cases hu0 : u < 0
        · have hr2 : r = 2 := by
            have h := HST.out
            rw [HBN.out hu0] at h
            simpa using h
          go_wp2_with first
            | (rw [hW])
            | (go_at_call 19; with_reducible refine Calls.mono (CU.out _) ?_; rintro e w1 ⟨rfl, rfl⟩)
          go_ret
          exact ⟨by rw [hr2]; rfl, HB.out.trans (HK.out.2.1.mono HB.out.size)⟩
        · by_cases hbad : bh = 5 ∧ op ≠ 1
          · obtain ⟨rfl, h1⟩ := hbad
            have hr12 : r = 12 := by
              have h := HST.out
              rw [HBO.out hu0 h1 (HB5.out rfl)] at h
              simpa using h
            have h1b : (op == 1) = false := by simpa using h1
            go_wp2_with first
              | (rw [hW])
              | (go_at_call 19; with_reducible refine Calls.mono (CU.out _) ?_; rintro e w1 ⟨rfl, rfl⟩)
            go_ret
            exact ⟨by rw [hr12]; rfl, HB.out.trans (HK.out.2.1.mono HB.out.size)⟩
          · obtain ⟨un, rfl⟩ : ∃ un : Nat, u = (un : Int) := ⟨u.toNat, by omega⟩
            have hgood : op = 1 ∨ ∃ o, prevAt L i = some o ∧ o ≠ 5 := by
              by_cases h1 : op = 1
              · exact .inl h1
              · exact .inr (HBX.out fun h => hbad ⟨h, h1⟩)
            have hbf := HBF.out un rfl hgood
            have hft := HFT.out un rfl
            have HR := Lib.hid (show d = false → r = 4 from fun h => by
              have h2 := HST.out
              rw [hbf, if_neg (fun h3 => (of_decide_eq_false (HD.out.trans h)) (hft.1 h3))] at h2
              simpa using h2)
            have HX := Lib.hid (show d = true → checkGo (prevAt L (i + 1)) (L.drop (i + 1)) = r from fun h => by
              have h2 := HST.out
              rw [hbf, if_pos (hft.2 (of_decide_eq_true (HD.out.trans h))), if_pos rfl] at h2
              exact h2.symm)
            have CP1 := Lib.hid (CP.out hu0)
            have hcf := CF.out
            rw [Int.toNat_natCast] at hcf
            have CF1 := Lib.hid hcf
            have un3 : (un : Int).toNat = un := by omega
            have hun : un ≤ 3 := by omega
            clear hgood hbf hft CP CF hcf
            rcases (show (bh = 5 ∧ op = 1) ∨ ¬ bh = 5 by omega) with ⟨rfl, rfl⟩ | h5
            all_goals
              try have h5b : (bh == 5) = false := by simpa using h5
              cases d with
              | true =>
                go_wp2_with first
                  | (rw [hW])
                  | (go_at_call 19; with_reducible refine Calls.mono (CU.out _) ?_; rintro e w1 ⟨rfl, rfl⟩)
                  | (go_at_call 25; with_reducible refine Calls.mono CP1.out ?_; rintro e w1 ⟨rfl, rfl⟩)
                  | (go_at_call 27; with_reducible refine Calls.mono CF1.out ?_; rintro e w3 ⟨rfl, b3⟩; have HB3 := Lib.hid (HB.out.trans ((HK.out.2.1.trans ((HK.out.2.2.mono HK.out.2.1.size).trans (b3.mono (Nat.le_trans HK.out.2.1.size HK.out.2.2.size)))).mono HB.out.size)); obtain ⟨y0, -⟩ := ((HK.out.1.below HK.out.2.2 HK.out.1.lt).below b3 (Nat.lt_of_lt_of_le HK.out.1.lt HK.out.2.2.size)).st; dsimp only at y0; clear b3)
                go_roundg (n - (i + 1))
                case measure => have := HGI.out; omega
                case rel => exact ⟨i + 1, by simp, by rw [HBS.out], by have := HGI.out; omega, HX.out trivial, HB3.out⟩
              | false =>
                have hr4 := HR.out rfl
                go_wp2_with first
                  | (rw [hW])
                  | (go_at_call 19; with_reducible refine Calls.mono (CU.out _) ?_; rintro e w1 ⟨rfl, rfl⟩)
                  | (go_at_call 25; with_reducible refine Calls.mono CP1.out ?_; rintro e w1 ⟨rfl, rfl⟩)
                  | (go_at_call 27; with_reducible refine Calls.mono CF1.out ?_; rintro e w3 ⟨rfl, b3⟩; have HB3 := Lib.hid (HB.out.trans ((HK.out.2.1.trans ((HK.out.2.2.mono HK.out.2.1.size).trans (b3.mono (Nat.le_trans HK.out.2.1.size HK.out.2.2.size)))).mono HB.out.size)); clear b3)
                go_ret
                exact ⟨by rw [hr4]; rfl, HB3.out⟩
      · obtain rfl : i = n := by omega
        have hr0 : r = 0 := by
          have h := checkGo_end L
          rw [HN.out] at h
          exact hgo.symm.trans h
        have HB := Lib.hid hB
        have hil : ¬ (i : Int) < (i : Int) := by omega
        clear hgo hB
        go_wp2_with fail
        go_ret
        exact ⟨by first | rfl | (rw [hr0]; rfl), HB.out⟩
end Go.Proofs.Ytdkgnechiloimaa
