/- Maps of the plane: the program's own All. -/
import Derived.Test.YtemipepahglndaaZAfY
import Derived.Test.YtemipepahglndaaZAgY
import Derived.Test.YtemipepahglndaaZAgX
namespace Go.Proofs.Ytemipepahglndaa
open Go.RowKit

theorem ptRow_set : ∀ (l : List Pt) (i : Nat) (q : Pt), i < l.length → ((ptRow l).set (i * 2) (.int .i64 q.x)).set (i * 2 + 1) (.int .i64 q.y) = ptRow (l.set i q)
  | [], i, _, h => absurd h (by simp)
  | p :: l, 0, q, _ => rfl
  | p :: l, i + 1, q, h => by
    have h1 := ptRow_set l i q (by simp at h; omega)
    rw [show (i + 1) * 2 = i * 2 + 2 by omega]
    show (.int .i64 p.x :: .int .i64 p.y :: ((ptRow l).set (i * 2) (.int .i64 q.x)).set (i * 2 + 1) (.int .i64 q.y) : List Value) = _
    rw [h1]
    rfl
/-- the first i places filled, the rest as made -/
def filled (L : List Mp) (l : List Pt) (i : Nat) : List Pt := gone L l i ++ List.replicate (l.length - i) pt0
theorem filled_length {L : List Mp} {l : List Pt} {i : Nat} (h : i ≤ l.length) : (filled L l i).length = l.length := by
  simp [filled, gone_length h]; omega
theorem filled_step {L : List Mp} {l : List Pt} {i : Nat} (hi : i < l.length) : (filled L l i).set i (throughM L l[i]).1 = filled L l (i + 1) := by
  have hl := gone_length (L := L) (l := l) (i := i) (by omega)
  unfold filled
  rw [gone_step hi, List.set_append_right _ _ (by omega), hl, Nat.sub_self]
  obtain ⟨k, hk⟩ : ∃ k, l.length - i = k + 1 := ⟨l.length - i - 1, by omega⟩
  rw [hk, List.replicate_succ, List.set_cons_zero, List.append_assoc, show l.length - (i + 1) = k by omega]
  rfl
theorem filled_all (L : List Mp) (l : List Pt) : filled L l l.length = gone L l l.length := by simp [filled]
theorem zero_pts : ∀ n : Nat, ptRow (List.replicate n pt0) = List.replicate (n * 2) (.int .i64 0)
  | 0 => rfl
  | n + 1 => by
    rw [List.replicate_succ, show (n + 1) * 2 = 2 + n * 2 by omega, ← List.replicate_append_replicate, ← zero_pts n]
    rfl
theorem made_pts (n : Nat) : madeCells #[(.int .i64 0 : Value), .int .i64 0] (n * 2) = (List.replicate (n * 2) (.int .i64 0)).toArray := by
  apply Array.ext
  · simp [madeCells]
  · intro j h1 h2
    simp only [madeCells, Array.getElem_map, Array.getElem_range, List.getElem_toArray, List.getElem_replicate]
    have : j % 2 < 2 := Nat.mod_lt _ (by omega)
    have hs : (#[(.int .i64 0 : Value), .int .i64 0]).size = 2 := rfl
    rw [hs]
    generalize j % 2 = k at this
    match k, this with
    | 0, _ => rfl
    | 1, _ => rfl
theorem run_make_pts (n : Nat) (hn : n ≤ 17592186044416) (u : World) :
    (Instr.makeSlice 37 (.int .i64 (n : Int)) (.int .i64 (n : Int))).run Try.prog u = .ok (.slice (some ⟨u.heap.size, 0, none⟩) n n) (u.alloc (.cells (ptRow (List.replicate n pt0)).toArray 25)) := by
  obtain ⟨i, hi, hz0, hz1, hz2⟩ := info_parts info_pt
  have hb : (i.bytes : Int) * (n : Int) ≤ 281474976710656 := by rw [hz2]; omega
  have h := run_make (P := Try.prog) u 37 25 i _ Try.underlying37 hi hz0 .i64 .i64 n n (by omega) (Int.le_refl _) hb (by omega)
  rw [Int.toNat_natCast] at h
  rw [h, hz1, zero_pts, ← made_pts]
  rfl
/-- two cells of a row's block, written anew -/
theorem Box.set2 {w : World} {g : Nat} {t : TypeId} {l : List Pt} (h : Box w g t (ptRow l)) {i : Nat} (hi : i < l.length) (q : Pt) : ∃ U, (w.setCell ⟨g, i * 2, none⟩ (.int .i64 q.x)).setCell ⟨g, i * 2 + 1, none⟩ (.int .i64 q.y) = U ∧ Box U g t (ptRow (l.set i q)) ∧ ∀ B, B ≤ g → Below B w U := by
  refine ⟨_, rfl, ?_, fun B hB => ((Below.refl B w).setCell (p := ⟨g, i * 2, none⟩) hB _).setCell (p := ⟨g, i * 2 + 1, none⟩) hB _⟩
  rw [← ptRow_set l i q hi]
  exact (h.set (i * 2) _).set (i * 2 + 1) _
theorem Box.pts {w : World} {g : Nat} {t : TypeId} {l : List Pt} (h : Box w g t (ptRow l)) {i : Nat} (hi : i < l.length) : (w.cell? ⟨g, i * 2, none⟩ = some (.int .i64 l[i].x) ∧ w.cell? ⟨g, i * 2 + 1, none⟩ = some (.int .i64 l[i].y)) ∧ w.frozen? ⟨g, i * 2, none⟩ = false ∧ w.frozen? ⟨g, i * 2 + 1, none⟩ = false :=
  ⟨⟨h.cell _ (flat_get ptCells_length l i hi 0 (by omega)), h.cell _ (flat_get ptCells_length l i hi 1 (by omega))⟩, h.frozen _, h.frozen _⟩

set_option maxRecDepth 10000 in
set_option maxHeartbeats 3200000 in
theorem aff_All (L : List Mp) (A : Option Addr) (c : Nat) (ps : List Pt) (B : Option Addr) (d : Nat) (w : World) (hL : RdV w w.heap.size A (mpRow L)) (hm : L.length ≤ 4611686018427387904) (hP : RdV w w.heap.size B (ptRow ps)) (hp : ps.length ≤ 8796093022208) :
    Calls Try.prog 15 #[.slice A L.length c, .slice B ps.length d] w fun e w' => (∃ q k, e = .returned (.tuple #[.slice q (allM L ps).1.length k, .int .i64 (allM L ps).2]) ∧ RdV w' w'.heap.size q (ptRow (allM L ps).1)) ∧ Below w.heap.size w w' := by
  obtain ⟨n, hn⟩ : ∃ n, ps.length = n := ⟨_, rfl⟩
  obtain ⟨nl, hnl⟩ : ∃ n, L.length = n := ⟨_, rfl⟩
  have HN := Lib.hid hn
  have HL := Lib.hid hL
  have HP := Lib.hid hP
  have cT := fun (p : Pt) (V : World) (h : RdV V V.heap.size A (mpRow L)) => aff_Through L A c p V h hm
  rw [hnl] at cT
  rw [hn, hnl]
  rw [hn] at hp
  have CT := Lib.hid cT
  have hmk := run_make_pts n (by omega)
  obtain ⟨W, hW, kW, B0⟩ : ∃ W, w.alloc (.cells (ptRow (List.replicate n pt0)).toArray 25) = W ∧ Box W w.heap.size 25 (ptRow (filled L ps 0)) ∧ Below w.heap.size w W := by
    refine ⟨_, rfl, ?_, (Below.refl _ _).alloc (Nat.le_refl _) _⟩
    have e : filled L ps 0 = List.replicate n pt0 := by rw [← hn]; simp [filled, gone]
    rw [e]
    exact Box.new w _ _
  have HK := Lib.hid (And.intro kW B0)
  clear cT hn hL hP hnl hm kW B0
  go_enter Try.func15, Try.ntmps15
  go_wp2_with (rw [hW])
  try rw [hW]
  clear hW hmk
  go_loopg [16] n (fun gh it wr => ∃ i : Nat, it = .int .i64 (i : Int) ∧ gh + i = n ∧ (∀ p ∈ ps.take i, (throughM L p).2 = 0) ∧ Box wr w.heap.size 25 (ptRow (filled L ps i)) ∧ Below w.heap.size w wr)
  case atStart => exact ⟨0, rfl, by omega, by simp, HK.out.1, HK.out.2⟩
  case round =>
    obtain ⟨i, rfl, hg, hok, hbx, hB⟩ := hrel
    by_cases hlt : i < n
    · have hlt' : i < ps.length := by rw [HN.out]; exact hlt
      obtain ⟨g, o, rfl, hgl, e0, e1⟩ := (HP.out.below hB).pt (i := i) hlt'
      have hil : (i : Int) < (n : Int) := by omega
      obtain ⟨p, hpp⟩ : ∃ p, ps[i] = p := ⟨_, rfl⟩
      have HST := Lib.hid (oks_step hlt' hok)
      have HFI := Lib.hid (filled_step (L := L) hlt')
      have HER := Lib.hid (allM_err hlt' hok)
      rw [hpp] at e0 e1 HST HFI HER
      have cA := fun (V : World) (h : Below w.heap.size w V) => CT.out p V ((HL.out.below h).mono h.size)
      obtain ⟨X, Y, hXY⟩ : ∃ X Y, (throughM L p).1 = ⟨X, Y⟩ := ⟨_, _, rfl⟩
      obtain ⟨E, hE⟩ : ∃ E, (throughM L p).2 = E := ⟨_, rfl⟩
      rw [hXY] at HFI
      rw [hE] at HST HER
      simp only [hXY, hE] at cA
      obtain ⟨x, y⟩ := p
      unfold ptV at cA
      dsimp only at e0 e1 cA
      have HA := Lib.hid cA
      obtain ⟨V0, hV0, k0, c0⟩ := endP wr 25 (.int .i64 x) (.int .i64 y)
      obtain ⟨⟨t0, t1⟩, -⟩ := Box.pair k0
      have HO := Lib.hid (And.intro (hbx.below c0 hbx.lt) (hB.trans (c0.mono hB.size)))
      have hfl : i < (filled L ps i).length := by rw [filled_length (by omega), HN.out]; exact hlt
      have HFL := Lib.hid hfl
      clear hok hbx hB cA hXY hE hpp hlt' k0 c0 hfl
      by_cases hE0 : E = 0
      · subst hE0
        have HS := Lib.hid (HST.out rfl)
        clear HST HER
        go_wp2_with first
          | ((try rw [hV0]); go_at_call 17; with_reducible refine Calls.mono (HA.out _ HO.out.2) ?_; rintro e w1 ⟨rfl, b1⟩
             obtain ⟨V1, hV1, k1, c1⟩ := endP w1 25 (.int .i64 X) (.int .i64 Y)
             have bV := b1.trans (c1.mono b1.size)
             obtain ⟨⟨z0, z1⟩, -⟩ := Box.pair k1
             have HV := Lib.hid (And.intro (HO.out.1.below bV HO.out.1.lt) (HO.out.2.trans (bV.mono HO.out.2.size)))
             obtain ⟨⟨y0, y1⟩, y2, y3⟩ := Box.pts HV.out.1 HFL.out
             clear b1 c1 bV k1)
          | (rw [hV1])
        obtain ⟨U, hU, kU, bU⟩ := HV.out.1.set2 HFL.out ⟨X, Y⟩
        have hBs := HV.out.2.trans (bU w.heap.size (Nat.le_refl _))
        rw [HFI.out] at kU
        try rw [hU]
        go_roundg (n - (i + 1))
        case measure => omega
        case rel => exact ⟨i + 1, by simp, by omega, HS.out, kU, hBs⟩
      · have hE1 : (E == 0) = false := by simpa using hE0
        have HS := Lib.hid (HER.out hE0)
        clear HST HER
        go_wp2_with first
          | ((try rw [hV0]); go_at_call 17; with_reducible refine Calls.mono (HA.out _ HO.out.2) ?_; rintro e w1 ⟨rfl, b1⟩
             obtain ⟨V1, hV1, k1, c1⟩ := endP w1 25 (.int .i64 X) (.int .i64 Y)
             have bV := b1.trans (c1.mono b1.size)
             have HV := Lib.hid (HO.out.2.trans (bV.mono HO.out.2.size))
             clear b1 c1 bV k1)
          | (rw [hV1])
        go_ret2
        rw [HS.out]
        exact ⟨⟨none, 0, rfl, RdV.nil _ _ _⟩, HV.out⟩
    · obtain rfl : i = n := by omega
      have hall : allM L ps = (gone L ps i, 0) := by
        have := gone_all (L := L) (l := ps) (by rw [HN.out]; exact hok)
        rwa [HN.out] at this
      have hfi : filled L ps i = gone L ps i := by
        have := filled_all L ps
        rwa [HN.out] at this
      rw [hfi] at hbx
      have HF := Lib.hid (And.intro hall (And.intro hbx.rd (And.intro hB (show (gone L ps i).length = i from gone_length (by rw [HN.out]; exact Nat.le_refl _)))))
      clear hok hB hall hfi hbx
      go_wp2_with fail
      go_ret2
      rw [HF.out.1]
      exact ⟨⟨_, _, by rw [HF.out.2.2.2]; rfl, HF.out.2.1⟩, HF.out.2.2.1⟩
end Go.Proofs.Ytemipepahglndaa
/- The walk of AffineThrough. -/

namespace Go.Proofs.Ytemipepahglndaa
open Go.RowKit

theorem allM_len (L : List Mp) : ∀ l : List Pt, (allM L l).1.length ≤ l.length
  | [] => Nat.le_refl _
  | p :: l => by
    have h := allM_len L l
    unfold allM
    split
    · split
      · simp; exact h
      · simp
    · simp

set_option maxRecDepth 10000 in
set_option maxHeartbeats 6400000 in
theorem walk_AffineThrough (L : List Mp) (ps : List Pt) (A B : Option Addr) (c d : Nat) (w : World) (hL : RdV w w.heap.size A (mpRow L)) (hP : RdV w w.heap.size B (ptRow ps)) (hm : L.length ≤ 4611686018427387904) (hp : ps.length ≤ 8796093022208) :
    Calls Try.prog 4 #[.slice A L.length c, .slice B ps.length d] w fun e w' => e = .returned (.bool true) ∧ Below w.heap.size w w' := by
  have C1 := Lib.hid (aff_All L A c ps B d w hL hm hP hp)
  have C2 := Lib.hid (fun V (h : Below w.heap.size w V) => ref10_All L A c ps B d V ((hL.below h).mono h.size) hm ((hP.below h).mono h.size) hp)
  have c3 := fun (p : Pt) V (h : Below w.heap.size w V) => aff_Through L A c p V ((hL.below h).mono h.size) hm
  have c4 := fun (p : Pt) V (h : Below w.heap.size w V) => ref10_Through L A c p V ((hL.below h).mono h.size) hm
  have C9 := Lib.hid law10_lives
  have hlen := allM_len L ps
  obtain ⟨l, hl⟩ : ∃ l, (allM L ps).1 = l := ⟨_, rfl⟩
  obtain ⟨E, hE⟩ : ∃ E, (allM L ps).2 = E := ⟨_, rfl⟩
  rw [hl, hE] at C1
  simp only [hl, hE] at C2
  rw [hl] at hlen
  have HS := Lib.hid (fun (q1 q2 : Option Addr) (k1 k2 : Nat) V (r1 : RdV V V.heap.size q1 (ptRow l)) (r2 : RdV V V.heap.size q2 (ptRow l)) => (ref10_Same q1 q2 k1 k2 l l V r1 r2 (by omega)))
  have HP := Lib.hid hP
  obtain ⟨n, hn⟩ : ∃ n, ps.length = n := ⟨_, rfl⟩
  have HN := Lib.hid hn
  rw [hn] at hp
  simp only [hn] at C1 C2
  rw [hn]
  obtain ⟨nl, hnl⟩ : ∃ n, L.length = n := ⟨_, rfl⟩
  simp only [hnl] at C1 C2 c3 c4
  rw [hnl]
  have C3 := Lib.hid c3
  have C4 := Lib.hid c4
  clear c3 c4 hl hE hlen hn hnl hL hP hm
  go_enter Try.func4, Try.ntmps4
  go_wp2_with first
    | (go_at_call 15; with_reducible refine Calls.mono C1.out ?_; rintro e w1 ⟨⟨q1, k1, rfl, r1⟩, b1⟩)
    | (go_at_call 16; with_reducible refine Calls.mono (C2.out w1 b1) ?_; rintro e w2 ⟨⟨q2, k2, rfl, r2⟩, b2⟩)
  have HR := Lib.hid (And.intro (r1.on b2) r2)
  have HB := Lib.hid (b1.trans (b2.mono b1.size))
  clear r1 r2 b1 b2 C1 C2
  go_loopg [9] n (fun gh it wr => ∃ i : Nat, it = .int .i64 (i : Int) ∧ gh + i = n ∧ Below w2.heap.size w2 wr ∧ Below w.heap.size w wr)
  case atStart => exact ⟨0, rfl, by omega, Below.refl _ _, HB.out⟩
  case round =>
    obtain ⟨i, rfl, hg, hB2, hB⟩ := hrel
    by_cases hlt : i < n
    · have hlt' : i < ps.length := by rw [HN.out]; exact hlt
      obtain ⟨g, o, rfl, hgl, e0, e1⟩ := (HP.out.below hB).pt (i := i) hlt'
      have hil : (i : Int) < (n : Int) := by omega
      obtain ⟨p, hpp⟩ : ∃ p, ps[i] = p := ⟨_, rfl⟩
      rw [hpp] at e0 e1
      have c3 := C3.out p
      have c4 := C4.out p
      obtain ⟨X, Y, hXY⟩ : ∃ X Y, (throughM L p).1 = ⟨X, Y⟩ := ⟨_, _, rfl⟩
      obtain ⟨F, hF⟩ : ∃ F, (throughM L p).2 = F := ⟨_, rfl⟩
      simp only [hXY, hF] at c3 c4
      obtain ⟨x, y⟩ := p
      unfold ptV at c3 c4
      dsimp only at e0 e1 c3 c4
      have D3 := Lib.hid c3
      have D4 := Lib.hid c4
      have hgw : g < w.heap.size := hgl
      have HO := Lib.hid (And.intro hB2 hB)
      clear hXY hF hpp hlt' c3 c4 hB2 hB
      go_wp2_with first
        | (go_at_call 17; with_reducible refine Calls.mono (D3.out _ HO.out.2) ?_; rintro e w3 ⟨rfl, b3⟩
           obtain ⟨V1, hV1, k1, d1⟩ := endP w3 25 (.int .i64 X) (.int .i64 Y)
           have bV := b3.trans (d1.mono b3.size)
           have f0 : V1.cell? ⟨g, o + i * 2, none⟩ = _ := (bV.cell (p := ⟨g, o + i * 2, none⟩) (Nat.lt_of_lt_of_le hgw HO.out.2.size)).trans e0
           have f1 : V1.cell? ⟨g, o + i * 2 + 1, none⟩ = _ := (bV.cell (p := ⟨g, o + i * 2 + 1, none⟩) (Nat.lt_of_lt_of_le hgw HO.out.2.size)).trans e1
           have H1 := Lib.hid (And.intro k1 (And.intro (HO.out.1.trans (bV.mono HO.out.1.size)) (HO.out.2.trans (bV.mono HO.out.2.size))))
           clear b3 d1 bV k1)
        | (go_at_call 18; with_reducible refine Calls.mono (D4.out _ H1.out.2.2) ?_; rintro e w4 ⟨rfl, b4⟩
           obtain ⟨V2, hV2, k2, d2⟩ := endP w4 25 (.int .i64 X) (.int .i64 Y)
           have bV := b4.trans (d2.mono b4.size)
           obtain ⟨⟨z0, z1⟩, -⟩ := Box.pair (H1.out.1.below bV H1.out.1.lt)
           obtain ⟨⟨z2, z3⟩, -⟩ := Box.pair k2
           have H2 := Lib.hid (And.intro (H1.out.2.1.trans (bV.mono H1.out.2.1.size)) (H1.out.2.2.trans (bV.mono H1.out.2.2.size)))
           clear b4 d2 bV k2)
        | (rw [hV1])
        | (rw [hV2])
      go_roundg (n - (i + 1))
      case measure => omega
      case rel => exact ⟨i + 1, by simp, by omega, H2.out.1, H2.out.2⟩
    · have hs := HS.out q1 q2 k1 k2 wr ((HR.out.1.below hB2).mono hB2.size) ((HR.out.2.below hB2).mono hB2.size)
      unfold TellsIt at hs
      have HF := Lib.hid (And.intro hs hB)
      clear hs
      clear hB2 hB
      go_wp2_with first
        | (go_at_call 19; with_reducible refine Calls.mono HF.out.1 ?_; rintro e w5 ⟨⟨bb, rfl, hbb⟩, b5⟩
           obtain rfl : bb = true := hbb.2 (by first | rfl | trivial))
        | (go_at_call 14; with_reducible refine Calls.mono (C9.out _) ?_; rintro e w6 ⟨rfl, b6⟩)
      go_ret
      have b := HF.out.2.trans (b5.mono HF.out.2.size)
      exact ⟨rfl, b.trans (b6.mono b.size)⟩
end Go.Proofs.Ytemipepahglndaa
