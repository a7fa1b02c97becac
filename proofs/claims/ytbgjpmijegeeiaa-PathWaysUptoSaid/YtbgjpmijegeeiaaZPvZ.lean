/- Paths, the program's own: curves, and that their points are new memory. -/
import Derived.Test.YtbgjpmijegeeiaaZBgB
import Derived.Test.YtbgjpmijegeeiaaZPvY
import Derived.Test.YtbgjpmijegeeiaaZPtY
import Derived.Test.YtbgjpmijegeeiaaZPvX
namespace Go.Proofs.Ytbgjpmijegeeiaa
open Go.RowKit

/-- what a call hands back: a row of points that it made, and an error -/
def CurvedN (l : List Pt) (w : World) (e : Ending) (w' : World) : Prop := (∃ q k, e = .returned (.tuple #[.slice q (curveP l).length k, .int .i64 (curveE l)]) ∧ RdV w' w'.heap.size q (ptRow (curveP l)) ∧ ∀ b o, q = some ⟨b, o, none⟩ → w.heap.size ≤ b) ∧ Below w.heap.size w w'

set_option maxRecDepth 10000 in
set_option maxHeartbeats 3200000 in
theorem bez_curveN (L : List Pt) (A : Option Addr) (c : Nat) (hl : L.length ≤ 4) (h0 : 0 < L.length) (w : World) (hL : RdV w w.heap.size A (ptRow L)) :
    Calls Try.prog 36 #[.slice A L.length c] w (CurvedN L w) := by
  have cP := bez_Pieces L A c w hL (by omega)
  unfold CurvedN
  rw [curveP_length]
  have cA := fun (k n : Nat) (hF : FitL L) (hk : k ≤ n) (hn : n ≤ 32) (hn1 : 1 ≤ n) V (h : Below w.heap.size w V) => bez_along L hF A c k n hk hn hn1 hl h0 V ((hL.below h).mono h.size)
  obtain ⟨nl, hnl⟩ : ∃ nl, L.length = nl := ⟨_, rfl⟩
  rw [hnl] at cP ⊢
  simp only [hnl] at cA
  obtain ⟨n, hn⟩ : ∃ n, piecesM L = n := ⟨_, rfl⟩
  have hle := piecesM_le L
  have HN := Lib.hid hn
  have HF0 := Lib.hid (piecesM_fit (l := L))
  rw [hn] at cP hle ⊢
  have CP := Lib.hid cP
  have CA := Lib.hid cA
  clear cP cA hn hnl hL
  by_cases hz : n = 0
  · subst hz
    have he : curveE L = 4 := by unfold curveE; rw [if_pos HN.out]
    have hcp : curveP L = [] := List.eq_nil_of_length_eq_zero (by rw [curveP_length]; exact HN.out)
    rw [he, hcp]
    clear he hcp
    go_enter Try.func36, Try.ntmps36
    go_wp2_with (go_at_call 24; with_reducible refine Calls.mono CP.out ?_; rintro e w1 ⟨rfl, b1⟩)
    go_ret2
    exact ⟨⟨none, 0, rfl, RdV.nil _ _ _, fun b o e => by cases e⟩, b1⟩
  · have he : curveE L = 0 := by unfold curveE; rw [if_neg (by rw [HN.out]; exact hz)]
    have hcp : curveP L = curveTo n L n := by unfold curveP; rw [HN.out]
    have HF := HF0.out (by rw [HN.out]; exact hz)
    rw [he, hcp]
    have hzi : ¬ (n : Int) = 0 := by omega
    have hzb : ((n : Int) == 0) = false := by simpa using hzi
    clear he hcp
    have hmk := fun u => run_make_pts n (by omega) u
    go_enter Try.func36, Try.ntmps36
    go_wp2_with (go_at_call 24; with_reducible refine Calls.mono CP.out ?_; rintro e w1 ⟨rfl, b1⟩)
    obtain ⟨W, hW, kW, bW⟩ : ∃ W, w1.alloc (.cells (ptRow (List.replicate n pt0)).toArray 42) = W ∧ Box W w1.heap.size 42 (ptRow (under n L 0)) ∧ Below w.heap.size w W := by
      refine ⟨_, rfl, ?_, b1.alloc b1.size _⟩
      have e : under n L 0 = List.replicate n pt0 := by simp [under, curveTo]
      rw [e]
      exact Box.new w1 _ _
    have HK := Lib.hid (And.intro kW bW)
    have hs1 := b1.size
    clear kW bW b1 hmk
    try rw [hW]
    go_loopg [15] n (fun gh it wr => ∃ i : Nat, it = .int .i64 (i : Int) ∧ gh + i = n ∧ Box wr w1.heap.size 42 (ptRow (under n L i)) ∧ Below w.heap.size w wr)
    case atStart => exact ⟨0, rfl, by omega, HK.out.1, HK.out.2⟩
    case round =>
      obtain ⟨i, rfl, hg, hbx, hB⟩ := hrel
      by_cases hlt : i < n
      · have hil : (i : Int) < (n : Int) := by omega
        have cA := CA.out (i + 1) n HF (by omega) (by omega) (by omega)
        have hfl : i < (under n L i).length := by rw [under_length _ _ (by omega)]; exact hlt
        have HFL := Lib.hid hfl
        have HST := Lib.hid (under_step n L hlt)
        obtain ⟨p, hp⟩ : ∃ p, curveAt (i + 1) n L = p := ⟨_, rfl⟩
        rw [hp] at HST
        simp only [hp] at cA
        obtain ⟨X, Y⟩ := p
        have ei : ((i + 1 : Nat) : Int) = (i : Int) + 1 := by omega
        unfold ptV at cA
        dsimp only at cA
        rw [ei] at cA
        have CA1 := Lib.hid cA
        have HO := Lib.hid (And.intro hbx hB)
        clear cA hp hbx hB hfl ei
        go_wp2_with (go_at_call 44; with_reducible refine Calls.mono (CA1.out _ HO.out.2) ?_; rintro e w2 ⟨rfl, b2⟩
                     have HV := Lib.hid (And.intro (HO.out.1.below b2 HO.out.1.lt) (HO.out.2.trans (b2.mono HO.out.2.size)))
                     obtain ⟨⟨y0, y1⟩, y2, y3⟩ := Box.pts HV.out.1 HFL.out
                     clear b2)
        obtain ⟨U, hU, kU, bU⟩ := HV.out.1.set2 HFL.out ⟨X, Y⟩
        have hBs := HV.out.2.trans (bU w.heap.size (by omega))
        rw [HST.out] at kU
        try rw [hU]
        go_roundg (n - (i + 1))
        case measure => omega
        case rel => exact ⟨i + 1, by simp, by omega, kU, hBs⟩
      · obtain rfl : i = n := by omega
        rw [under_all] at hbx
        have HF2 := Lib.hid (And.intro hbx.rd hB)
        clear hB hbx
        go_wp2_with fail
        go_ret2
        exact ⟨⟨_, _, rfl, HF2.out.1, fun b o e => by cases e; exact hs1⟩, HF2.out.2⟩
set_option maxRecDepth 10000 in
set_option maxHeartbeats 1600000 in
theorem bez_QuadN (a b c : Pt) (w : World) : Calls Try.prog 28 #[ptV a, ptV b, ptV c] w (CurvedN [a, b, c] w) := by
  obtain ⟨W, hW, ⟨p0, p1⟩, ⟨q0, q1⟩, ⟨r0, r1⟩, bW⟩ := q_boxes w a b c
  have cC := bez_curveN [a, b, c] (some ⟨W.heap.size, 0, none⟩) 3 (by simp) (by simp) (W.alloc (.cells (ptRow [a, b, c]).toArray 42)) (Box.new W 42 (ptRow [a, b, c])).rd
  have HB := Lib.hid (bW.alloc bW.size (.cells (ptRow [a, b, c]).toArray 42))
  unfold CurvedN at *
  obtain ⟨r, hr⟩ : ∃ r, curveP [a, b, c] = r := ⟨_, rfl⟩
  obtain ⟨E, hE⟩ : ∃ E, curveE [a, b, c] = E := ⟨_, rfl⟩
  rw [hr, hE] at cC ⊢
  obtain ⟨ax, ay⟩ := a
  obtain ⟨bx, bY⟩ := b
  obtain ⟨cx, cy⟩ := c
  have CC := Lib.hid cC
  clear cC hr hE bW
  unfold ptV
  dsimp only at *
  go_enter Try.func28, Try.ntmps28
  go_wp2_with first
    | (go_at_call 36; refine Calls.mono CC.out ?_; rintro e w1 ⟨⟨q, k, rfl, h1, h2⟩, b1⟩)
    | (rw [hW])
  go_ret2
  exact ⟨⟨q, k, rfl, h1, fun b o e => Nat.le_trans HB.out.size (h2 b o e)⟩, HB.out.trans (b1.mono HB.out.size)⟩

set_option maxRecDepth 10000 in
set_option maxHeartbeats 1600000 in
theorem bez_CubeN (a b c d : Pt) (w : World) : Calls Try.prog 30 #[ptV a, ptV b, ptV c, ptV d] w (CurvedN [a, b, c, d] w) := by
  obtain ⟨W, hW, ⟨p0, p1⟩, ⟨q0, q1⟩, ⟨r0, r1⟩, ⟨s0, s1⟩, bW⟩ := c_boxes w a b c d
  have cC := bez_curveN [a, b, c, d] (some ⟨W.heap.size, 0, none⟩) 4 (by simp) (by simp) (W.alloc (.cells (ptRow [a, b, c, d]).toArray 42)) (Box.new W 42 (ptRow [a, b, c, d])).rd
  have HB := Lib.hid (bW.alloc bW.size (.cells (ptRow [a, b, c, d]).toArray 42))
  unfold CurvedN at *
  obtain ⟨r, hr⟩ : ∃ r, curveP [a, b, c, d] = r := ⟨_, rfl⟩
  obtain ⟨E, hE⟩ : ∃ E, curveE [a, b, c, d] = E := ⟨_, rfl⟩
  rw [hr, hE] at cC ⊢
  obtain ⟨ax, ay⟩ := a
  obtain ⟨bx, bY⟩ := b
  obtain ⟨cx, cy⟩ := c
  obtain ⟨dx, dY⟩ := d
  have CC := Lib.hid cC
  clear cC hr hE bW
  unfold ptV
  dsimp only at *
  go_enter Try.func30, Try.ntmps30
  go_wp2_with first
    | (go_at_call 36; refine Calls.mono CC.out ?_; rintro e w1 ⟨⟨q, k, rfl, h1, h2⟩, b1⟩)
    | (rw [hW])
  go_ret2
  exact ⟨⟨q, k, rfl, h1, fun b o e => Nat.le_trans HB.out.size (h2 b o e)⟩, HB.out.trans (b1.mono HB.out.size)⟩

end Go.Proofs.Ytbgjpmijegeeiaa
/- Paths, the program's own: a trail goes one step on. -/

namespace Go.Proofs.Ytbgjpmijegeeiaa
open Go.RowKit

theorem step_five {prev : Option Int} {s : St} (h : badM prev s = 0) : s.op = 1 ∨ s.op = 2 ∨ s.op = 3 ∨ s.op = 4 ∨ s.op = 5 := (badM_zero h).1
theorem curveE_fit {l : List Pt} (h : FitL l) : curveE l = 0 := by
  unfold curveE
  rw [if_neg (by have := piecesM_pos h; omega)]
theorem two_rd (w : World) (x y : Int) : RdV (w.alloc (.cells #[.int .i64 x, .int .i64 y] 42)) (w.alloc (.cells #[.int .i64 x, .int .i64 y] 42)).heap.size (some ⟨w.heap.size, 0, none⟩) (ptRow [⟨x, y⟩]) := (Box.new w 42 (ptRow [⟨x, y⟩])).rd
/-- a trail one step further -/
def Went (t : Nat) (V : List Lv) (a : List Pt) (s : St) (w : World) (w' : World) : Prop :=
  ∃ V' ov' nv', Lv.all V' = Lv.all V ++ (if s.op = 1 ∨ s.op = 5 then flushM a (decide (s.op = 5)) else []) ∧ V'.length ≤ V.length + 1 ∧ Trl w' t V' (onceM (nowM a s ++ pointsM (lastP (nowM a s)) s)) ov' nv' ∧ Below t w w'

set_option maxRecDepth 10000 in
set_option maxHeartbeats 6400000 in
theorem trail_step (t : Nat) (V : List Lv) (a : List Pt) (ov nv : Value) (s : St) (w : World) (h : Trl w t V (onceM a) ov nv) (h5 : s.op = 1 ∨ s.op = 2 ∨ s.op = 3 ∨ s.op = 4 ∨ s.op = 5) (ha0 : s.op ≠ 1 → a ≠ []) (h3 : s.op = 3 → FitL [lastP a, s.p0, s.p1]) (h4 : s.op = 4 → FitL [lastP a, s.p0, s.p1, s.p2]) (ha : a.length ≤ 1073741000) (hV : V.length ≤ 1073741000) :
    Calls Try.prog 18 #[.pointer (some ⟨t, 0, none⟩), stV s] w fun e w' => e = .returned (.tuple #[]) ∧ Went t V a s w w' := by
  obtain ⟨W, hW, kW, bW, hWs⟩ := boxSt w s
  replace hWs := Nat.le_of_eq hWs.symm
  have hT := h.below bW
  have htw := h.box.lt
  have hle := onceM_le a
  have hov : ov.ownBlock ≠ some w.heap.size := fun e => by have := (h.lines.1.lt _ e).2; omega
  have hnv : ∀ b, W.heap.size ≤ b → b ≠ t ∧ nv.ownBlock ≠ some b := fun b hb => ⟨by have := hT.box.lt; omega, fun e => by have := (hT.pts.lt _ e).2; omega⟩
  obtain ⟨d0, d1, d2, d3, d4, d5, d6⟩ := kW.st
  have HT := Lib.hid hT
  have HBW := Lib.hid (bW.mono (Nat.le_of_lt htw))
  have htW := hT.box.lt
  have HK := Lib.hid kW
  have HOV := Lib.hid hov
  have HNV := Lib.hid hnv
  unfold stV
  obtain ⟨op, ⟨px, py⟩, ⟨qx, qy⟩, ⟨rx, ry⟩⟩ := s
  dsimp only at *
  clear h hT kW bW hov hnv
  rcases h5 with rfl | rfl | rfl | rfl | rfl
  · have cE := trail_end t V (onceM a) ov nv false W HT.out (by omega) (by omega)
    have cO := fun (V' : List Lv) (ov' : Value) (U : World) (hU : Trl U t V' [] ov' (.slice none 0 0)) => trail_on t V' [] [⟨px, py⟩] ov' (.slice none 0 0) (some ⟨U.heap.size, 0, none⟩) 1 (U.alloc (.cells #[.int .i64 px, .int .i64 py] 42)) (hU.alloc _) (two_rd U px py) (fun b o e => ⟨fun e2 => by cases e; have := hU.box.lt; omega, by simp [Value.ownBlock]⟩) (by simp)
    have CE := Lib.hid cE
    have CO := Lib.hid cO
    have HN := Lib.hid (show nowM a ⟨1, ⟨px, py⟩, ⟨qx, qy⟩, ⟨rx, ry⟩⟩ = [] from rfl)
    have HP := Lib.hid (show ∀ c, pointsM c ⟨1, ⟨px, py⟩, ⟨qx, qy⟩, ⟨rx, ry⟩⟩ = [⟨px, py⟩] from fun c => rfl)
    clear cE cO h3 h4 ha0
    go_enter Try.func18, Try.ntmps18
    go_wp2_with first
      | (rw [hW])
      | (go_at_call 19; (with_reducible refine Calls.mono CE.out ?_); rintro e w1 ⟨rfl, V1, ov1, e1, l1, T1, b1, k1⟩
         have htU := T1.box.lt
         obtain ⟨y0, y1, y2, -⟩ := (show Box w1 w.heap.size 52 (stCells ⟨1, ⟨px, py⟩, ⟨qx, qy⟩, ⟨rx, ry⟩⟩) from (k1 w.heap.size htw HK.out.lt HOV.out).trans HK.out).st
         dsimp only at y0 y1 y2
         have H1 := Lib.hid (And.intro e1 (And.intro l1 (And.intro T1 b1)))
         clear e1 l1 T1 b1 k1)
      | (go_at_call 27; (with_reducible refine Calls.mono (CO.out _ _ _ H1.out.2.2.1) ?_); rintro e w2 ⟨rfl, nv2, T2, b2⟩
         have H2 := Lib.hid (And.intro T2 b2)
         clear T2 b2)
    go_end0
    exact ⟨rfl, V1, ov1, nv2, by rw [H1.out.1, flushM_once]; rfl, H1.out.2.1, by rw [HN.out, HP.out]; exact H2.out.1, HBW.out.trans (H1.out.2.2.2.trans (((below_new w1 _).mono (Nat.le_of_lt htU)).trans H2.out.2))⟩
  · have cO := trail_on t V a [⟨px, py⟩] ov nv (some ⟨W.heap.size, 0, none⟩) 1 (W.alloc (.cells #[.int .i64 px, .int .i64 py] 42)) (HT.out.alloc _) (two_rd W px py) (fun b o e => by cases e; exact HNV.out _ (Nat.le_refl _)) (by simp; omega)
    have CO := Lib.hid cO
    have HN := Lib.hid (show nowM a ⟨2, ⟨px, py⟩, ⟨qx, qy⟩, ⟨rx, ry⟩⟩ = a from rfl)
    have HP := Lib.hid (show ∀ c, pointsM c ⟨2, ⟨px, py⟩, ⟨qx, qy⟩, ⟨rx, ry⟩⟩ = [⟨px, py⟩] from fun c => rfl)
    clear cO h3 h4 ha0
    go_enter Try.func18, Try.ntmps18
    go_wp2_with first
      | (rw [hW])
      | (go_at_call 27; (with_reducible refine Calls.mono CO.out ?_); rintro e w2 ⟨rfl, nv2, T2, b2⟩
         have H2 := Lib.hid (And.intro T2 b2)
         clear T2 b2)
    go_end0
    exact ⟨rfl, V, ov, nv2, by simp, by omega, by rw [HN.out, HP.out]; exact H2.out.1, HBW.out.trans (((below_new W _).mono (Nat.le_of_lt htW)).trans H2.out.2)⟩
  · have hfl := h3 rfl
    have hne : onceM a ≠ [] := fun e => ha0 (by omega) (onceM_nil.1 e)
    have cA := fun U (h : Below W.heap.size W U) => trail_at t V (onceM a) ov nv U (HT.out.below h) hne (by omega)
    have cQ := fun U => bez_QuadN (lastP a) ⟨px, py⟩ ⟨qx, qy⟩ U
    unfold CurvedN at cQ
    simp only [curveE_fit hfl, onceM_last] at cA cQ
    have hpl := curveP_length [lastP a, ⟨px, py⟩, ⟨qx, qy⟩]
    have hple := piecesM_le [lastP a, ⟨px, py⟩, ⟨qx, qy⟩]
    have hpp : pointsM (lastP a) ⟨3, ⟨px, py⟩, ⟨qx, qy⟩, ⟨rx, ry⟩⟩ = curveP [lastP a, ⟨px, py⟩, ⟨qx, qy⟩] := rfl
    obtain ⟨P, hP⟩ : ∃ P, curveP [lastP a, ⟨px, py⟩, ⟨qx, qy⟩] = P := ⟨_, rfl⟩
    rw [hP] at hpl hpp
    have HP := Lib.hid hpp
    simp only [hP] at cQ
    obtain ⟨m, hm⟩ : ∃ m, P.length = m := ⟨_, rfl⟩
    have cO := fun (q : Option Addr) (k : Nat) (U : World) (hU : Below W.heap.size W U) (hq : RdV U U.heap.size q (ptRow P)) (hf : ∀ b o, q = some ⟨b, o, none⟩ → W.heap.size ≤ b) => trail_on t V a P ov nv q k U (HT.out.below hU) hq (fun b o e => HNV.out b (hf b o e)) (by omega)
    simp only [hm] at cQ cO
    obtain ⟨z, hz⟩ : ∃ z, lastP a = z := ⟨_, rfl⟩
    simp only [hz] at cA cQ
    obtain ⟨zx, zy⟩ := z
    unfold ptV at cA cQ
    dsimp only at cA cQ
    have CA := Lib.hid cA
    have CQ := Lib.hid cQ
    have CO := Lib.hid cO
    have HN := Lib.hid (show nowM a ⟨3, ⟨px, py⟩, ⟨qx, qy⟩, ⟨rx, ry⟩⟩ = a from rfl)
    have HCC := Lib.hid (fun U (h : Below W.heap.size W U) => show (U.cell? ⟨w.heap.size, 1, none⟩ = some (.int .i64 px) ∧ U.cell? ⟨w.heap.size, 2, none⟩ = some (.int .i64 py) ∧ U.cell? ⟨w.heap.size, 3, none⟩ = some (.int .i64 qx) ∧ U.cell? ⟨w.heap.size, 4, none⟩ = some (.int .i64 qy)) ∧ Below W.heap.size W U from ⟨⟨(h.cell (p := ⟨w.heap.size, 1, none⟩) hWs).trans d1, (h.cell (p := ⟨w.heap.size, 2, none⟩) hWs).trans d2, (h.cell (p := ⟨w.heap.size, 3, none⟩) hWs).trans d3, (h.cell (p := ⟨w.heap.size, 4, none⟩) hWs).trans d4⟩, h⟩)
    have G0 := Lib.hid ((Below.refl W.heap.size W).drew)
    have HH := Lib.hid (HCC.out _ G0.out)
    clear cA cQ cO h3 h4 ha0 hfl hne hpl hple hP hm hpp hz
    go_enter Try.func18, Try.ntmps18
    go_wp2_with (rw [hW])
    try rw [hW]
    go_region_held3 (fun w' => (w'.cell? ⟨w.heap.size, 1, none⟩ = some (.int .i64 px) ∧ w'.cell? ⟨w.heap.size, 2, none⟩ = some (.int .i64 py) ∧ w'.cell? ⟨w.heap.size, 3, none⟩ = some (.int .i64 qx) ∧ w'.cell? ⟨w.heap.size, 4, none⟩ = some (.int .i64 qy)) ∧ Below W.heap.size W w')
      (first
        | (with_reducible exact HH.out)
        | (with_reducible exact HCC.out _ G1.out)
        | (with_reducible exact HCC.out _ G2.out))
      (first
        | (go_at_call 29; (with_reducible refine Calls.mono (CA.out _ G0.out) ?_); rintro e w1 ⟨rfl, b1⟩
           have G1 := Lib.hid (G0.out.trans (b1.mono G0.out.size))
           clear b1)
        | (go_at_call 28; (with_reducible refine Calls.mono (CQ.out _) ?_); rintro e w2 ⟨⟨q, k, rfl, r2, f2⟩, b2⟩
           have G2 := Lib.hid (G1.out.trans (b2.mono G1.out.size))
           have R2 := Lib.hid (And.intro r2 (fun b o (e : q = some ⟨b, o, none⟩) => Nat.le_trans G1.out.size (f2 b o e)))
           clear b2 r2 f2))
    go_wp2_with (go_at_call 27; (with_reducible refine Calls.mono (CO.out _ _ _ G2.out R2.out.1 R2.out.2) ?_); rintro e w3 ⟨rfl, nv3, T3, b3⟩; have H3 := Lib.hid (And.intro T3 b3); clear T3 b3)
    go_end0
    exact ⟨rfl, V, ov, nv3, by simp, by omega, by rw [HN.out, HP.out]; exact H3.out.1, HBW.out.trans ((G2.out.mono (Nat.le_of_lt htW)).trans H3.out.2)⟩
  · have hfl := h4 rfl
    have hne : onceM a ≠ [] := fun e => ha0 (by omega) (onceM_nil.1 e)
    have cA := fun U (h : Below W.heap.size W U) => trail_at t V (onceM a) ov nv U (HT.out.below h) hne (by omega)
    have cQ := fun U => bez_CubeN (lastP a) ⟨px, py⟩ ⟨qx, qy⟩ ⟨rx, ry⟩ U
    unfold CurvedN at cQ
    simp only [curveE_fit hfl, onceM_last] at cA cQ
    have hpl := curveP_length [lastP a, ⟨px, py⟩, ⟨qx, qy⟩, ⟨rx, ry⟩]
    have hple := piecesM_le [lastP a, ⟨px, py⟩, ⟨qx, qy⟩, ⟨rx, ry⟩]
    have hpp : pointsM (lastP a) ⟨4, ⟨px, py⟩, ⟨qx, qy⟩, ⟨rx, ry⟩⟩ = curveP [lastP a, ⟨px, py⟩, ⟨qx, qy⟩, ⟨rx, ry⟩] := rfl
    obtain ⟨P, hP⟩ : ∃ P, curveP [lastP a, ⟨px, py⟩, ⟨qx, qy⟩, ⟨rx, ry⟩] = P := ⟨_, rfl⟩
    rw [hP] at hpl hpp
    have HP := Lib.hid hpp
    simp only [hP] at cQ
    obtain ⟨m, hm⟩ : ∃ m, P.length = m := ⟨_, rfl⟩
    have cO := fun (q : Option Addr) (k : Nat) (U : World) (hU : Below W.heap.size W U) (hq : RdV U U.heap.size q (ptRow P)) (hf : ∀ b o, q = some ⟨b, o, none⟩ → W.heap.size ≤ b) => trail_on t V a P ov nv q k U (HT.out.below hU) hq (fun b o e => HNV.out b (hf b o e)) (by omega)
    simp only [hm] at cQ cO
    obtain ⟨z, hz⟩ : ∃ z, lastP a = z := ⟨_, rfl⟩
    simp only [hz] at cA cQ
    obtain ⟨zx, zy⟩ := z
    unfold ptV at cA cQ
    dsimp only at cA cQ
    have CA := Lib.hid cA
    have CQ := Lib.hid cQ
    have CO := Lib.hid cO
    have HN := Lib.hid (show nowM a ⟨4, ⟨px, py⟩, ⟨qx, qy⟩, ⟨rx, ry⟩⟩ = a from rfl)
    have HCC := Lib.hid (fun U (h : Below W.heap.size W U) => show (U.cell? ⟨w.heap.size, 1, none⟩ = some (.int .i64 px) ∧ U.cell? ⟨w.heap.size, 2, none⟩ = some (.int .i64 py) ∧ U.cell? ⟨w.heap.size, 3, none⟩ = some (.int .i64 qx) ∧ U.cell? ⟨w.heap.size, 4, none⟩ = some (.int .i64 qy) ∧ U.cell? ⟨w.heap.size, 5, none⟩ = some (.int .i64 rx) ∧ U.cell? ⟨w.heap.size, 6, none⟩ = some (.int .i64 ry)) ∧ Below W.heap.size W U from ⟨⟨(h.cell (p := ⟨w.heap.size, 1, none⟩) hWs).trans d1, (h.cell (p := ⟨w.heap.size, 2, none⟩) hWs).trans d2, (h.cell (p := ⟨w.heap.size, 3, none⟩) hWs).trans d3, (h.cell (p := ⟨w.heap.size, 4, none⟩) hWs).trans d4, (h.cell (p := ⟨w.heap.size, 5, none⟩) hWs).trans d5, (h.cell (p := ⟨w.heap.size, 6, none⟩) hWs).trans d6⟩, h⟩)
    have G0 := Lib.hid ((Below.refl W.heap.size W).drew)
    have HH := Lib.hid (HCC.out _ G0.out)
    clear cA cQ cO h3 h4 ha0 hfl hne hpl hple hP hm hpp hz
    go_enter Try.func18, Try.ntmps18
    go_wp2_with (rw [hW])
    try rw [hW]
    go_region_held3 (fun w' => (w'.cell? ⟨w.heap.size, 1, none⟩ = some (.int .i64 px) ∧ w'.cell? ⟨w.heap.size, 2, none⟩ = some (.int .i64 py) ∧ w'.cell? ⟨w.heap.size, 3, none⟩ = some (.int .i64 qx) ∧ w'.cell? ⟨w.heap.size, 4, none⟩ = some (.int .i64 qy) ∧ w'.cell? ⟨w.heap.size, 5, none⟩ = some (.int .i64 rx) ∧ w'.cell? ⟨w.heap.size, 6, none⟩ = some (.int .i64 ry)) ∧ Below W.heap.size W w')
      (first
        | (with_reducible exact HH.out)
        | (with_reducible exact HCC.out _ G1.out)
        | (with_reducible exact HCC.out _ G2.out))
      (first
        | (go_at_call 29; (with_reducible refine Calls.mono (CA.out _ G0.out) ?_); rintro e w1 ⟨rfl, b1⟩
           have G1 := Lib.hid (G0.out.trans (b1.mono G0.out.size))
           clear b1)
        | (go_at_call 30; (with_reducible refine Calls.mono (CQ.out _) ?_); rintro e w2 ⟨⟨q, k, rfl, r2, f2⟩, b2⟩
           have G2 := Lib.hid (G1.out.trans (b2.mono G1.out.size))
           have R2 := Lib.hid (And.intro r2 (fun b o (e : q = some ⟨b, o, none⟩) => Nat.le_trans G1.out.size (f2 b o e)))
           clear b2 r2 f2))
    go_wp2_with (go_at_call 27; (with_reducible refine Calls.mono (CO.out _ _ _ G2.out R2.out.1 R2.out.2) ?_); rintro e w3 ⟨rfl, nv3, T3, b3⟩; have H3 := Lib.hid (And.intro T3 b3); clear T3 b3)
    go_end0
    exact ⟨rfl, V, ov, nv3, by simp, by omega, by rw [HN.out, HP.out]; exact H3.out.1, HBW.out.trans ((G2.out.mono (Nat.le_of_lt htW)).trans H3.out.2)⟩
  · have cE := trail_end t V (onceM a) ov nv true W HT.out (by omega) (by omega)
    have CE := Lib.hid cE
    have HN := Lib.hid (show nowM a ⟨5, ⟨px, py⟩, ⟨qx, qy⟩, ⟨rx, ry⟩⟩ = [] from rfl)
    have HP := Lib.hid (show ∀ c, pointsM c ⟨5, ⟨px, py⟩, ⟨qx, qy⟩, ⟨rx, ry⟩⟩ = [] from fun c => rfl)
    clear cE h3 h4 ha0
    go_enter Try.func18, Try.ntmps18
    go_wp2_with first
      | (rw [hW])
      | (go_at_call 19; (with_reducible refine Calls.mono CE.out ?_); rintro e w1 ⟨rfl, V1, ov1, e1, l1, T1, b1, k1⟩
         have H1 := Lib.hid (And.intro e1 (And.intro l1 (And.intro T1 b1)))
         clear e1 l1 T1 b1 k1)
    go_end0
    exact ⟨rfl, V1, ov1, .slice none 0 0, by rw [H1.out.1, flushM_once]; rfl, H1.out.2.1, by rw [HN.out, HP.out]; exact H1.out.2.2.1, HBW.out.trans H1.out.2.2.2⟩
end Go.Proofs.Ytbgjpmijegeeiaa
/- Paths, the program's own: Trace. -/

namespace Go.Proofs.Ytbgjpmijegeeiaa
open Go.RowKit

theorem nowM_fit {a : List Pt} (h : FitL a) (s : St) : FitL (nowM a s) := by
  unfold nowM
  split
  · intro p hp; simp at hp
  · exact h
theorem nowM_le (a : List Pt) (s : St) : (nowM a s).length ≤ a.length := by
  unfold nowM
  split
  · simp
  · exact Nat.le_refl _

set_option maxRecDepth 10000 in
set_option maxHeartbeats 6400000 in
theorem path_Trace (L : List St) (A : Option Addr) (c : Nat) (w : World) (hL : RdV w w.heap.size A (stRow L)) (hl : L.length ≤ 4611686018427387904) :
    Calls Try.prog 6 #[.slice A L.length c] w (GivesLn (traceM L) (checkM L) w) := by
  have cC := path_wrong L A c w hL hl
  obtain ⟨n, hn⟩ : ∃ n, L.length = n := ⟨_, rfl⟩
  have HN := Lib.hid hn
  have HL := Lib.hid hL
  obtain ⟨E, hE⟩ : ∃ E, checkM L = E := ⟨_, rfl⟩
  obtain ⟨T, hT⟩ : ∃ T, traceM L = T := ⟨_, rfl⟩
  rw [hn, hE] at cC
  rw [hn, hE, hT]
  have CC := Lib.hid cC
  by_cases hz : E = 0
  · subst hz
    have h200 : n ≤ 200 := by
      rw [← hn]
      unfold checkM at hE
      split at hE
      · omega
      · omega
    have HG := Lib.hid (show checkGo (prevAt L 0) (L.drop 0) = 0 by
      unfold checkM at hE
      split at hE
      · omega
      · exact hE)
    have HT := Lib.hid (show Lv.all [] ++ traceGo [] (L.drop 0) = T by rw [← hT]; unfold traceM; rw [if_pos hE]; rfl)
    clear cC hn hL hE hT
    go_enter Try.func6, Try.ntmps6
    go_wp2_with (go_at_call 17; (with_reducible refine Calls.mono CC.out ?_); rintro e w1 ⟨rfl, b1⟩)
    obtain ⟨W, hW, tW, bW⟩ : ∃ W, w1.alloc (.cells #[.slice none 0 0, .slice none 0 0] 49) = W ∧ Trl W w1.heap.size [] [] (.slice none 0 0) (.slice none 0 0) ∧ Below w1.heap.size w1 W := ⟨_, rfl, Trl.new w1, below_new w1 _⟩
    have HK := Lib.hid (And.intro tW bW)
    have HB1 := Lib.hid b1
    clear b1 tW bW
    rw [hW]
    go_loopg [15] n (fun gh iv wr => ∃ (i : Nat) (V : List Lv) (a : List Pt) (ov nv : Value), iv = .int .i64 (i : Int) ∧ gh + i = n ∧ Trl wr w1.heap.size V (onceM a) ov nv ∧ Below w1.heap.size w1 wr ∧ FitL a ∧ a.length ≤ 32 * i ∧ V.length ≤ i ∧ checkGo (prevAt L i) (L.drop i) = 0 ∧ (∀ o, prevAt L i = some o → o ≠ 5 → a ≠ []) ∧ Lv.all V ++ traceGo a (L.drop i) = T)
    case atStart => exact ⟨0, [], [], _, _, rfl, by omega, HK.out.1, HK.out.2, fun p hp => by simp at hp, by simp, by simp, HG.out, (fun o h => by cases h), HT.out⟩
    case round =>
      obtain ⟨i, V, a, ov, nv, rfl, hg, hTr, hB, hfit, hal, hVl, hchk, hne, htr⟩ := hrel
      have HGI := Lib.hid hg
      have HBw := Lib.hid (HB1.out.trans (hB.mono HB1.out.size))
      by_cases hlt : i < n
      · have hlt' : i < L.length := by rw [HN.out]; exact hlt
        obtain ⟨b, o, rfl, hb, e0, e1, e2, e3, e4, e5, e6⟩ := (HL.out.below HBw.out).st (i := i) hlt'
        have hil : (i : Int) < (n : Int) := by omega
        have hst := checkGo_step hlt'
        rw [hchk] at hst
        rw [traceGo_step hlt'] at htr
        have hpv := prevAt_succ hlt'
        obtain ⟨s, hs⟩ : ∃ s, L[i] = s := ⟨_, rfl⟩
        rw [hs] at e0 e1 e2 e3 e4 e5 e6 hst htr hpv
        have hbad : badM (prevAt L i) s = 0 := by
          by_cases h : badM (prevAt L i) s = 0
          · exact h
          · rw [if_neg h] at hst; exact absurd hst.symm h
        rw [if_pos hbad] at hst
        obtain ⟨h5, hpr, -⟩ := badM_zero hbad
        obtain ⟨g3, g4, -, -⟩ := step_fits hbad (lastP_fit hfit)
        obtain ⟨-, -, fl, f5⟩ := step_fits hbad (lastP_fit (nowM_fit hfit s))
        have ha0 : s.op ≠ 1 → a ≠ [] := fun h1 => by
          rcases hpr with h | ⟨o, h, h'⟩
          · exact absurd h h1
          · exact hne o h h'
        obtain ⟨W2, hW2, kW2, bW2, hWs2⟩ := boxSt wr s
        have cS := trail_step w1.heap.size V a ov nv s W2 (hTr.below bW2) h5 ha0 g3 g4 (by omega) (by omega)
        have hle := pointsM_le (lastP (nowM a s)) s
        have hnl := nowM_le a s
        obtain ⟨x0, x1, x2, x3, x4, x5, x6⟩ := kW2.st
        have HNW := Lib.hid (show ∀ V', Lv.all V' = Lv.all V ++ (if s.op = 1 ∨ s.op = 5 then flushM a (decide (s.op = 5)) else []) → Lv.all V' ++ traceGo (nowM a s ++ pointsM (lastP (nowM a s)) s) (L.drop (i + 1)) = T from fun V' h => by rw [h, List.append_assoc]; exact htr)
        have HNE := Lib.hid (show ∀ o, prevAt L (i + 1) = some o → o ≠ 5 → nowM a s ++ pointsM (lastP (nowM a s)) s ≠ [] from fun o h h' => by
          rw [hpv] at h
          cases h
          intro e
          exact h' (f5.1 (List.append_eq_nil_iff.1 e).2))
        have HFT := Lib.hid (show FitL (nowM a s ++ pointsM (lastP (nowM a s)) s) from fun x hx => (List.mem_append.1 hx).elim (nowM_fit hfit s x) (fl x))
        have HLE := Lib.hid (show (nowM a s ++ pointsM (lastP (nowM a s)) s).length ≤ 32 * (i + 1) by rw [List.length_append]; omega)
        have HST := Lib.hid hst.symm
        have HBW := Lib.hid (hB.trans (bW2.mono (Nat.le_of_lt hTr.box.lt)))
        have HVL := Lib.hid hVl
        unfold Went at cS
        generalize nowM a s ++ pointsM (lastP (nowM a s)) s = a' at cS HNW HNE HFT HLE
        obtain ⟨op, ⟨p0, p1⟩, ⟨q0, q1⟩, ⟨r0, r1⟩⟩ := s
        unfold stV at cS
        dsimp only at e0 e1 e2 e3 e4 e5 e6 x0 x1 x2 x3 x4 x5 x6 hW2 cS
        have CS := Lib.hid cS
        clear cS hst htr hpv hbad h5 hpr g3 g4 fl f5 ha0 kW2 bW2 hWs2 hle hnl hTr hB hfit hal hVl hchk hne hs hlt'
        go_wp2_with first
          | (rw [hW2])
          | (go_at_call 18; (with_reducible refine Calls.mono CS.out ?_); rintro e w3 ⟨rfl, V', ov', nv', v1, v2, v3, v4⟩; have H3 := Lib.hid (And.intro v1 (And.intro v2 (And.intro v3 v4))); clear v1 v2 v3 v4)
        go_roundg (n - (i + 1))
        case measure => have := HGI.out; omega
        case rel => exact ⟨i + 1, V', a', ov', nv', by simp, by have := HGI.out; omega, H3.out.2.2.1, HBW.out.trans H3.out.2.2.2, HFT.out, HLE.out, by have h1 := H3.out.2.1; have h2 := HVL.out; omega, HST.out, HNE.out, HNW.out V' H3.out.1⟩
      · obtain rfl : i = n := by omega
        have hend := traceGo_end a L
        rw [HN.out] at hend
        rw [hend] at htr
        have cE := trail_end w1.heap.size V (onceM a) ov nv false wr hTr (by have := onceM_le a; omega) (by omega)
        have HTR := Lib.hid (show ∀ V', Lv.all V' = Lv.all V ++ flushO (onceM a) false → Lv.all V' = T from fun V' h => by rw [h, ← flushM_once]; exact htr)
        have CE := Lib.hid cE
        have hil : ¬ (i : Int) < (i : Int) := by omega
        have HBE := Lib.hid hB
        clear cE htr hend hTr hB hfit hal hVl hchk hne
        go_wp2_with (go_at_call 19; (with_reducible refine Calls.mono CE.out ?_); rintro e w3 ⟨rfl, V', ov', v1, v2, v3, v4, v5⟩; obtain ⟨q, k, rfl, -, hr⟩ := v3.lines.rd; obtain ⟨⟨y0, y1⟩, -⟩ := Box.pair v3.box; have hlen : V'.length = T.length := by { rw [← HTR.out V' v1]; simp [Lv.all] }; rw [hlen] at y0; have H3 := Lib.hid (And.intro (HTR.out V' v1) (And.intro hr (HB1.out.trans ((HBE.out.trans v4).mono HB1.out.size)))); clear v1 v2 v3 v4 v5 hr hlen)
        go_ret2
        exact ⟨⟨q, k, V', rfl, H3.out.1, H3.out.2.1⟩, H3.out.2.2⟩
  · have hT0 : T = [] := by rw [← hT]; unfold traceM; rw [if_neg (by rw [hE]; exact hz)]
    subst hT0
    have hzb : (E == 0) = false := by simpa using hz
    clear cC hn hL hE hT
    go_enter Try.func6, Try.ntmps6
    go_wp2_with (go_at_call 17; (with_reducible refine Calls.mono CC.out ?_); rintro e w1 ⟨rfl, b1⟩)
    go_ret2
    exact ⟨⟨none, 0, [], rfl, rfl, RdLn.nil _ _ _⟩, b1⟩
end Go.Proofs.Ytbgjpmijegeeiaa
