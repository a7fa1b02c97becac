/- Paths, the document's own: Count. -/
import Derived.Test.YtbgjpmijegeeiaaZPtX
import Derived.StillTailTactics
import Derived.Test.YtbgjpmijegeeiaaZBgD
namespace Go.Proofs.Ytbgjpmijegeeiaa
open Go.RowKit

theorem FitL.three {a b c : Pt} (ha : FitP a) (hb : FitP b) (hc : FitP c) : FitL [a, b, c] := fun p hp => by
  simp only [List.mem_cons, List.not_mem_nil, or_false] at hp
  rcases hp with rfl | rfl | rfl <;> assumption
theorem FitL.four {a b c d : Pt} (ha : FitP a) (hb : FitP b) (hc : FitP c) (hd : FitP d) : FitL [a, b, c, d] := fun p hp => by
  simp only [List.mem_cons, List.not_mem_nil, or_false] at hp
  rcases hp with rfl | rfl | rfl | rfl <;> assumption
theorem fitL_btw {l : List Pt} (h : Btw (-8388607) 8388607 (-8388607) 8388607 l) : FitL l := h
/-- a right step's points fit, and what it goes by -/
theorem step_fits {prev : Option Int} {s : St} {c : Pt} (h : badM prev s = 0) (hc : FitP c) : (s.op = 3 → FitL [c, s.p0, s.p1]) ∧ (s.op = 4 → FitL [c, s.p0, s.p1, s.p2]) ∧ FitL (pointsM c s) ∧ (pointsM c s = [] ↔ s.op = 5) := by
  obtain ⟨h1, -, h3⟩ := badM_zero h
  have g3 : s.op = 3 → FitL [c, s.p0, s.p1] := fun e => by
    have u : usesM s.op = 2 := by rw [e]; rfl
    rw [u] at h3
    exact FitL.three hc (h3 0 (by decide)) (h3 1 (by decide))
  have g4 : s.op = 4 → FitL [c, s.p0, s.p1, s.p2] := fun e => by
    have u : usesM s.op = 3 := by rw [e]; rfl
    rw [u] at h3
    exact FitL.four hc (h3 0 (by decide)) (h3 1 (by decide)) (h3 2 (by decide))
  refine ⟨g3, g4, ?_, ?_⟩
  · unfold pointsM
    split
    · rename_i h12
      have u : usesM s.op = 1 := by rcases h12 with e | e <;> rw [e] <;> rfl
      rw [u] at h3
      intro p hp
      simp at hp
      subst hp
      exact h3 0 (by decide)
    · split
      · rename_i e
        exact fitL_btw (curveP_in (g3 e).btw (by simp))
      · split
        · rename_i e
          exact fitL_btw (curveP_in (g4 e).btw (by simp))
        · intro p hp; simp at hp
  · constructor
    · intro e
      unfold pointsM at e
      split at e
      · simp at e
      · split at e
        · rename_i e3
          have := piecesM_pos (g3 e3)
          have h5 := congrArg List.length e
          rw [curveP_length] at h5
          simp at h5
          omega
        · split at e
          · rename_i e4
            have := piecesM_pos (g4 e4)
            have h5 := congrArg List.length e
            rw [curveP_length] at h5
            simp at h5
            omega
          · omega
    · intro e
      unfold pointsM
      rw [if_neg (by omega), if_neg (by omega), if_neg (by omega)]
theorem lastP_fit {l : List Pt} (h : FitL l) : FitP (lastP l) := h.getD _
theorem goes_fit {prev : Option Int} {s : St} {c : Pt} (h : badM prev s = 0) (hc : FitP c) : FitP (goesM c s) := by
  unfold goesM
  split
  · exact hc
  · exact lastP_fit (step_fits h hc).2.2.1
theorem countGo_step {l : List St} {i : Nat} (hi : i < l.length) (c : Pt) : countGo c (l.drop i) = costM c l[i] + countGo (goesM c l[i]) (l.drop (i + 1)) := by
  rw [List.drop_eq_getElem_cons hi]
  rfl
theorem max2_run {P : Program} (a b m : Int) (h : max a b = m) (ts : Array TypeId) (t : TypeId) (W : World) : (Builtin.max_ ts t #[.int .i64 a, .int .i64 b]).run P W = .ok (.int .i64 m) W := by
  have e2 : (Builtin.max_ ts t #[.int .i64 a, .int .i64 b]).run P W = .ok (.int .i64 (max a b)) W := by
    simp only [Builtin.max_, Builtin.max2, List.foldlM_cons, List.foldlM_nil]
    simp
    omega
  rw [e2, h]

set_option maxRecDepth 10000 in
set_option maxHeartbeats 6400000 in
theorem ref12_Count (L : List St) (A : Option Addr) (c : Nat) (w : World) (hL : RdV w w.heap.size A (stRow L)) (hl : L.length ≤ 4611686018427387904) :
    Calls Try.prog 9 #[.slice A L.length c] w fun e w' => e = .returned (.tuple #[.int .i64 (countM L : Int), .int .i64 (checkM L)]) ∧ Below w.heap.size w w' := by
  have cC := ref12_Check L A c w hL hl
  obtain ⟨n, hn⟩ : ∃ n, L.length = n := ⟨_, rfl⟩
  have HN := Lib.hid hn
  have HL := Lib.hid hL
  obtain ⟨E, hE⟩ : ∃ E, checkM L = E := ⟨_, rfl⟩
  obtain ⟨T, hT⟩ : ∃ T, countM L = T := ⟨_, rfl⟩
  rw [hn, hE] at cC
  rw [hn, hE, hT]
  have CC := Lib.hid cC
  by_cases hz : E = 0
  · subst hz
    have h200 : n ≤ 200 := by
      rw [← hn]
      unfold checkM at hE
      split at hE
      · omega
      · omega
    have HG := Lib.hid (show checkGo (prevAt L 0) (L.drop 0) = 0 by
      unfold checkM at hE
      split at hE
      · omega
      · exact hE)
    have HT := Lib.hid (show 0 + countGo pt0 (L.drop 0) = T by rw [← hT]; unfold countM; rw [if_pos hE]; simp)
    clear cC hn hL hE hT
    go_enter Try.func9, Try.ntmps9
    go_wp2_with (go_at_call 20; (with_reducible refine Calls.mono CC.out ?_); rintro e w1 ⟨rfl, b1⟩)
    obtain ⟨W, hW, kW, bW⟩ := endP w1 42 (.int .i64 0) (.int .i64 0)
    have HK := Lib.hid (And.intro kW (b1.trans (bW.mono b1.size)))
    have hw1 := b1.size
    clear b1 kW bW
    rw [hW]
    go_loopg [5, 7] n (fun gh nv iv wr => ∃ (i acc : Nat) (p : Pt), iv = .int .i64 (i : Int) ∧ nv = .int .i64 (acc : Int) ∧ gh + i = n ∧ FitP p ∧ checkGo (prevAt L i) (L.drop i) = 0 ∧ acc + countGo p (L.drop i) = T ∧ acc ≤ 32 * i ∧ Box wr w1.heap.size 42 [.int .i64 p.x, .int .i64 p.y] ∧ Below w.heap.size w wr)
    case atStart => exact ⟨0, 0, pt0, rfl, rfl, by omega, by decide, HG.out, HT.out, by omega, HK.out.1, HK.out.2⟩
    case round =>
      obtain ⟨i, acc, p, rfl, rfl, hg, hfit, hchk, hcnt, hacc, kB, hB⟩ := hrel
      have HGI := Lib.hid hg
      by_cases hlt : i < n
      · have hlt' : i < L.length := by rw [HN.out]; exact hlt
        obtain ⟨b, o, rfl, hb, e0, e1, e2, e3, e4, e5, e6⟩ := (HL.out.below hB).st (i := i) hlt'
        have hil : (i : Int) < (n : Int) := by omega
        have hst := checkGo_step hlt'
        rw [hchk] at hst
        have hcs := countGo_step hlt' p
        rw [hcs] at hcnt
        obtain ⟨s, hs⟩ : ∃ s, L[i] = s := ⟨_, rfl⟩
        rw [hs] at e0 e1 e2 e3 e4 e5 e6 hst hcnt
        have hbad : badM (prevAt L i) s = 0 := by
          by_cases h : badM (prevAt L i) s = 0
          · exact h
          · rw [if_neg h] at hst; exact absurd hst.symm h
        rw [if_pos hbad] at hst
        obtain ⟨f3, f4, fl, f5⟩ := step_fits hbad hfit
        have hgf := goes_fit hbad hfit
        have cP := fun V => ref12_Points p s f3 f4 V
        have hle := pointsM_le p s
        have hops := (badM_zero hbad).1
        have hgo : goesM p s = if pointsM p s = [] then p else lastP (pointsM p s) := rfl
        have hco : costM p s = if s.op = 1 then 0 else max 1 (pointsM p s).length := rfl
        generalize goesM p s = p2 at hcnt hgf hgo
        generalize costM p s = co at hcnt hco
        generalize pointsM p s = P at cP f5 hgo hco hle fl
        obtain ⟨op, q0, q1, q2⟩ := s
        obtain ⟨px, py⟩ := p
        unfold ptV stV GivesPts at cP
        dsimp only at e0 e1 e2 e3 e4 e5 e6 cP f5 hco hops kB
        obtain ⟨m, hm⟩ : ∃ m, P.length = m := ⟨_, rfl⟩
        have HM := Lib.hid hm
        rw [hm] at hco hle
        simp only [hm] at cP
        have CP := Lib.hid cP
        have HX := Lib.hid (And.intro hgf (And.intro hst.symm hcnt))
        have HKB := Lib.hid (And.intro kB hB)
        obtain ⟨⟨z0, z1⟩, -⟩ := Box.pair kB
        have H5 := Lib.hid f5
        have HGO := Lib.hid hgo
        have HCO := Lib.hid hco
        clear hst hcnt cP hgf hgo hco hbad fl f3 f4 f5 kB hB hs hlt' hm hcs hchk hfit
        go_wp2_with fail
        go_still_tail 5, (by kernel_rfl)
        change wpList _ _ _ _ _ wr.drew
        have hbw : b < wr.heap.size := Nat.lt_of_lt_of_le hb HKB.out.2.size
        have hwB : w1.heap.size < wr.heap.size := HKB.out.1.lt
        by_cases h5 : op = 5
        · have hP : P = [] := H5.out.2 h5
          subst hP
          have hm0 : m = 0 := by rw [← HM.out]; rfl
          subst hm0
          have hco1 : co = 1 := by rw [HCO.out, if_neg (by omega)]; rfl
          have hp2 : p2 = ⟨px, py⟩ := by rw [HGO.out, if_pos rfl]
          subst hco1 hp2 h5
          have hmx := fun ts t W => max2_run (P := Try.prog) 1 0 1 (by omega) ts t W
          have hwa : IntKind.i64.wrap ((acc : Int) + 1) = (acc : Int) + 1 := IntWalk.i64_in _ (by omega)
          go_wp2_with (go_at_call 22; (with_reducible refine Calls.mono (CP.out _) ?_); rintro e w2 ⟨⟨q, k, rfl, hnil, r2⟩, b2⟩; have hBB := HKB.out.2.drew.trans (b2.mono HKB.out.2.drew.size); have e0' := (b2.cell (p := ⟨b, o + i * 7, none⟩) hbw).trans e0; obtain ⟨rfl, rfl⟩ := hnil rfl; have HE := Lib.hid (And.intro ((Box.drewN HKB.out.1 1).below b2 hwB) hBB); clear r2 b2 hBB hnil)
          go_roundg (n - (i + 1))
          case measure => have := HGI.out; omega
          case rel => exact ⟨i + 1, acc + 1, ⟨px, py⟩, by simp, by simp, by omega, HX.out.1, HX.out.2.1, by have := HX.out.2.2; omega, by omega, HE.out.1, HE.out.2⟩
        · have hPn : ¬ P = [] := fun h => h5 (H5.out.1 h)
          have hm0 : 0 < m := by rw [← HM.out]; exact List.length_pos_iff.2 hPn
          have hp2 : p2 = lastP P := by rw [HGO.out, if_neg hPn]
          unfold lastP at hp2
          rw [HM.out] at hp2
          have HLP := Lib.hid hp2.symm
          obtain ⟨lx, ly⟩ := p2
          have mi : (0 : Int) < (m : Int) := by omega
          have mw : IntKind.i64.wrap ((m : Int) - 1) = (m : Int) - 1 := IntWalk.i64_in _ (by omega)
          have mb : 0 ≤ (m : Int) - 1 ∧ (m : Int) - 1 < (m : Int) := by omega
          have mt : ((m : Int) - 1).toNat = m - 1 := by omega
          clear hp2
          by_cases h1 : op = 1
          · have hco0 : co = 0 := by rw [HCO.out, if_pos h1]
            subst hco0 h1
            go_wp2_with (go_at_call 22; (with_reducible refine Calls.mono (CP.out _) ?_); rintro e w2 ⟨⟨q, k, rfl, hnil, r2⟩, b2⟩; have hBB := HKB.out.2.drew.trans (b2.mono HKB.out.2.drew.size); have e0' := (b2.cell (p := ⟨b, o + i * 7, none⟩) hbw).trans e0; obtain ⟨g2, o2, rfl, -, l0, l1⟩ := r2.pt (i := m - 1) (by rw [HM.out]; omega); rw [← getD_get (by rw [HM.out]; omega), HLP.out] at l0 l1; have kB2 := (Box.drewN HKB.out.1 1).below b2 hwB; obtain ⟨U, hU, kU, -, bU⟩ := kB2.stored2 (.int .i64 lx) (.int .i64 ly); have HE := Lib.hid (And.intro kU (hBB.trans (bU w.heap.size hw1))); obtain ⟨⟨z0, z1⟩, z2, z3⟩ := Box.pair kB2; dsimp only at l0 l1; clear r2 b2 kB2 kU bU hBB hnil)
            try rw [hU]
            go_roundg (n - (i + 1))
            case measure => have := HGI.out; omega
            case rel => exact ⟨i + 1, acc, ⟨lx, ly⟩, by simp, rfl, by omega, HX.out.1, HX.out.2.1, by have := HX.out.2.2; omega, by omega, HE.out.1, HE.out.2⟩
          · have hcom : co = m := by rw [HCO.out, if_neg h1]; omega
            subst hcom
            have h1b : (op == 1) = false := by simpa using h1
            have hmx := fun ts t W => max2_run (P := Try.prog) 1 (co : Int) (co : Int) (by omega) ts t W
            have hwa : IntKind.i64.wrap ((acc : Int) + (co : Int)) = (acc : Int) + (co : Int) := IntWalk.i64_in _ (by omega)
            go_wp2_with (go_at_call 22; (with_reducible refine Calls.mono (CP.out _) ?_); rintro e w2 ⟨⟨q, k, rfl, hnil, r2⟩, b2⟩; have hBB := HKB.out.2.drew.trans (b2.mono HKB.out.2.drew.size); have e0' := (b2.cell (p := ⟨b, o + i * 7, none⟩) hbw).trans e0; obtain ⟨g2, o2, rfl, -, l0, l1⟩ := r2.pt (i := co - 1) (by rw [HM.out]; omega); rw [← getD_get (by rw [HM.out]; omega), HLP.out] at l0 l1; have kB2 := (Box.drewN HKB.out.1 1).below b2 hwB; obtain ⟨U, hU, kU, -, bU⟩ := kB2.stored2 (.int .i64 lx) (.int .i64 ly); have HE := Lib.hid (And.intro kU (hBB.trans (bU w.heap.size hw1))); obtain ⟨⟨z0, z1⟩, z2, z3⟩ := Box.pair kB2; dsimp only at l0 l1; clear r2 b2 kB2 kU bU hBB hnil)
            try rw [hU]
            go_roundg (n - (i + 1))
            case measure => have := HGI.out; omega
            case rel => exact ⟨i + 1, acc + co, ⟨lx, ly⟩, by simp, by simp, by omega, HX.out.1, HX.out.2.1, by have := HX.out.2.2; omega, by omega, HE.out.1, HE.out.2⟩
      · obtain rfl : i = n := by omega
        have hend : acc = T := by rw [← hcnt, ← HN.out, List.drop_length]; rfl
        have HB := Lib.hid (And.intro hend hB)
        have hil : ¬ (i : Int) < (i : Int) := by omega
        clear hend hB hcnt hchk kB
        go_wp2_with fail
        go_ret2
        exact ⟨by rw [HB.out.1]; rfl, HB.out.2⟩
  · have hT0 : T = 0 := by rw [← hT]; unfold countM; rw [if_neg (by rw [hE]; exact hz)]
    subst hT0
    have hzb : (E == 0) = false := by simpa using hz
    clear cC hn hL hE hT
    go_enter Try.func9, Try.ntmps9
    go_wp2_with (go_at_call 20; (with_reducible refine Calls.mono CC.out ?_); rintro e w1 ⟨rfl, b1⟩)
    go_ret2
    exact ⟨rfl, b1⟩
end Go.Proofs.Ytbgjpmijegeeiaa
/- Paths, the document's own: Segs; rows that are the same. -/

namespace Go.Proofs.Ytbgjpmijegeeiaa
open Go.RowKit

def Lv.all (V : List Lv) : List Ln := V.map Lv.ln
/-- the ways around the first lines -/
def segsI (V : List Lv) (i : Nat) : List Sg := segsM (Lv.all (V.take i))
theorem segsI_step {V : List Lv} {i : Nat} (hi : i < V.length) : segsI V (i + 1) = segsI V i ++ segsOf V[i].pts := by
  unfold segsI Lv.all segsM
  rw [List.take_succ_eq_append_getElem hi]
  simp only [List.map_append, List.flatMap_append, List.map_cons, List.map_nil, List.flatMap_cons, List.flatMap_nil, List.append_nil]
  rfl
theorem segsI_all (V : List Lv) : segsI V V.length = segsM (Lv.all V) := by unfold segsI; rw [List.take_length]
def sumP : List Lv → Nat
  | [] => 0
  | x :: r => x.pts.length + sumP r
theorem sumP_append : ∀ a b : List Lv, sumP (a ++ b) = sumP a + sumP b
  | [], b => by simp [sumP]
  | x :: a, b => by
    have h := sumP_append a b
    simp only [List.cons_append, sumP, h]
    omega
theorem segsI_le {V : List Lv} : ∀ {i : Nat}, i ≤ V.length → (segsI V i).length ≤ sumP (V.take i)
  | 0, _ => by simp [segsI, Lv.all, segsM]
  | i + 1, h => by
    have h1 := segsI_le (V := V) (i := i) (by omega)
    have h2 := segTo_le V[i].pts V[i].pts.length
    rw [segsI_step (by omega), List.length_append, List.take_succ_eq_append_getElem (by omega), sumP_append]
    simp only [sumP]
    unfold segsOf
    omega
theorem sumP_take {V : List Lv} {i : Nat} (hi : i < V.length) : sumP (V.take i) + V[i].pts.length ≤ sumP V := by
  have h := List.take_append_drop i V
  have h2 := congrArg sumP h
  rw [sumP_append, List.drop_eq_getElem_cons hi] at h2
  simp only [sumP] at h2
  omega

set_option maxRecDepth 10000 in
set_option maxHeartbeats 3200000 in
theorem ref12_SameSegs (l : List Sg) (A B : Option Addr) (c d : Nat) (w : World) (ha : RdV w w.heap.size A (sgRow l)) (hb : RdV w w.heap.size B (sgRow l)) (hl : l.length ≤ 4611686018427387904) :
    Calls Try.prog 14 #[.slice A l.length c, .slice B l.length d] w fun e w' => e = .returned (.bool true) ∧ Below w.heap.size w w' := by
  obtain ⟨n, hn⟩ : ∃ n, l.length = n := ⟨_, rfl⟩
  have HN := Lib.hid hn
  have HR := Lib.hid (And.intro ha hb)
  rw [hn] at hl ⊢
  clear hn ha hb
  go_enter Try.func14, Try.ntmps14
  go_wp2_with fail
  go_loopg [5] n (fun gh it wr => ∃ i : Nat, it = .int .i64 (i : Int) ∧ gh + i = n ∧ Below w.heap.size w wr)
  case atStart => exact ⟨0, rfl, by omega, Below.refl _ _⟩
  case round =>
    obtain ⟨i, rfl, hg, hB⟩ := hrel
    have HG := Lib.hid hg
    by_cases hlt : i < n
    · obtain ⟨g, o, rfl, -, e0, e1, e2, e3⟩ := (HR.out.1.below hB).sg (i := i) (by rw [HN.out]; exact hlt)
      obtain ⟨g', o', rfl, -, f0, f1, f2, f3⟩ := (HR.out.2.below hB).sg (i := i) (by rw [HN.out]; exact hlt)
      obtain ⟨x, hx⟩ : ∃ x, l[i]'(by rw [HN.out]; exact hlt) = x := ⟨_, rfl⟩
      rw [hx] at e0 e1 e2 e3 f0 f1 f2 f3
      have HB := Lib.hid hB
      have hil : (i : Int) < (n : Int) := by omega
      obtain ⟨⟨ax, ay⟩, ⟨bx, bY⟩⟩ := x
      dsimp only at e0 e1 e2 e3 f0 f1 f2 f3
      clear hB hx
      go_wp2_with fail
      go_quiet (fail)
      go_wp2_with fail
      go_roundg (n - (i + 1))
      case measure => have := HG.out; omega
      case rel => exact ⟨i + 1, by simp, by omega, below_figE HB.out nq⟩
    · have HB := Lib.hid hB
      clear hB
      have hil : ¬ (i : Int) < (n : Int) := by omega
      go_wp2_with fail
      go_ret
      exact ⟨rfl, HB.out⟩

theorem four_new (w : World) (t : TypeId) (a b c d : Value) : ∀ j u, [a, b, c, d][j]? = some u → (w.alloc (.cells #[a, b, c, d] t)).cell? ((⟨w.heap.size, 0, none⟩ : Addr).add j) = some u := by
  intro j u hj
  rw [addr_add, Nat.zero_add]
  exact (Box.new w t [a, b, c, d]).cell j hj
theorem segTo_old {l : List Pt} {k : Nat} (h : l.getD k pt0 = nextP l k) : segTo l (k + 1) = segTo l k := if_pos h
theorem segTo_new {l : List Pt} {k : Nat} (h : ¬ l.getD k pt0 = nextP l k) : segTo l (k + 1) = segTo l k ++ [⟨l.getD k pt0, nextP l k⟩] := if_neg h

set_option maxRecDepth 10000 in
set_option maxHeartbeats 6400000 in
theorem ref12_Segs (V : List Lv) (A : Option Addr) (c : Nat) (w : World) (hV : RdLn w w.heap.size A V) (hl : V.length ≤ 1073741824) (hs : sumP V ≤ 1073741824) :
    Calls Try.prog 16 #[.slice A V.length c] w fun e w' => (∃ q k, e = .returned (.slice q (segsM (Lv.all V)).length k) ∧ RdV w' w'.heap.size q (sgRow (segsM (Lv.all V)))) ∧ Below w.heap.size w w' := by
  obtain ⟨n, hn⟩ : ∃ n, V.length = n := ⟨_, rfl⟩
  have HN := Lib.hid hn
  have HV := Lib.hid hV
  obtain ⟨i0, hi0, hz0, hz1, hz2⟩ := info_parts info_sg
  rw [← segsI_all, hn]
  rw [hn] at hl
  clear hn hV
  go_enter Try.func16, Try.ntmps16
  go_wp2_with fail
  go_loopg [3, 4] n (fun gh ov it wr => ∃ i : Nat, it = .int .i64 (i : Int) ∧ gh + i = n ∧ wr.ownsRow w.heap.size 44 4 ov (segsI V i).length (sgRow (segsI V i)) ∧ Below w.heap.size w wr)
  case atStart => exact ⟨0, rfl, by omega, World.ownsRow_nil _ _ _ _, Below.refl _ _⟩
  case round =>
    obtain ⟨i, rfl, hg, hown, hB⟩ := hrel
    have HG := Lib.hid hg
    by_cases hlt : i < n
    · have hlt' : i < V.length := by rw [HN.out]; exact hlt
      obtain ⟨g, o, rfl, hgl, e0, e1, hpr⟩ := (HV.out.below hB).row (i := i) hlt'
      have hil : (i : Int) < (n : Int) := by omega
      have hst := segsI_step hlt'
      have hle := segsI_le (V := V) (i := i) (by omega)
      have hsu := sumP_take hlt'
      have hcell := fun U (h : Below w.heap.size w U) => (HV.out.below h).row (i := i) hlt'
      obtain ⟨x, hx⟩ : ∃ x, V[i] = x := ⟨_, rfl⟩
      rw [hx] at e0 e1 hpr hst hsu
      simp only [hx] at hcell
      obtain ⟨XA, XC, P, cl⟩ := x
      dsimp only at e0 e1 hpr hst hsu hcell
      obtain ⟨m, hm⟩ : ∃ m, P.length = m := ⟨_, rfl⟩
      rw [hm] at e0 hsu
      simp only [hm] at hcell
      have HM := Lib.hid hm
      have HCE := Lib.hid hcell
      have HST := Lib.hid hst
      have HO := Lib.hid (And.intro hown hB)
      have hS0 : (segsI V i).length + m ≤ 1073741824 := by omega
      generalize segsI V i = S at hS0 HST HO
      clear hm hcell hst hown hB hle hsu hx hlt' hpr e1
      go_wp2_with fail
      go_loopg [3, 6] m (fun gh ov it wr => ∃ k : Nat, it = .int .i64 (k : Int) ∧ gh + k = m ∧ wr.ownsRow w.heap.size 44 4 ov (S ++ segTo P k).length (sgRow (S ++ segTo P k)) ∧ Below w.heap.size w wr)
      case atStart => exact ⟨0, rfl, by omega, by simpa [segTo] using HO.out.1, HO.out.2⟩
      case round =>
        obtain ⟨k, rfl, hgk, hownk, hBk⟩ := hrel
        have HGK := Lib.hid hgk
        by_cases hk : k < m
        · have hle := segTo_le P k
          have hlen : (S ++ segTo P k).length + 1 ≤ 1073741824 := by rw [List.length_append]; omega
          have hkl : (k : Int) < (m : Int) := by omega
          have m5 : 0 < m := by omega
          obtain ⟨gL, oL, eL, hgL, c0, c1, hpr⟩ := HCE.out wr hBk
          cases eL
          obtain ⟨gP, oP, rfl, hgP, d0, d1⟩ := hpr.pt (i := k) (by rw [HM.out]; exact hk)
          obtain ⟨g', o', e', -, f0, f1⟩ := hpr.pt (i := 0) (by rw [HM.out]; omega)
          cases e'
          rw [← getD_get (by rw [HM.out]; exact hk)] at d0 d1
          rw [← getD_get (by rw [HM.out]; omega)] at f0 f1
          simp only [Nat.zero_mul, Nat.add_zero] at f0 f1
          have hgw : g < wr.heap.size := Nat.lt_of_lt_of_le hgl hBk.size
          have hgPw : gP < wr.heap.size := Nat.lt_of_lt_of_le hgP hBk.size
          have hold := segTo_old (l := P) (k := k)
          have hnew := segTo_new (l := P) (k := k)
          obtain ⟨a, ha⟩ : ∃ a, P.getD k pt0 = a := ⟨_, rfl⟩
          rw [ha] at d0 d1 hold hnew
          obtain ⟨ax, ay⟩ := a
          dsimp only at d0 d1
          obtain ⟨z, hz⟩ : ∃ z, P.getD 0 pt0 = z := ⟨_, rfl⟩
          rw [hz] at f0 f1
          obtain ⟨zx, zy⟩ := z
          dsimp only at f0 f1
          obtain ⟨V1, hV1, k1, b1⟩ := endP wr 42 (.int .i64 ax) (.int .i64 ay)
          obtain ⟨V2, hV2, k2, b2⟩ := endP V1 42 (.int .i64 zx) (.int .i64 zy)
          have hs1 : V1.heap.size = wr.heap.size + 1 := by rw [← hV1]; simp
          rw [hs1] at k2
          have bb := b1.trans (b2.mono b1.size)
          have c0' := (b1.cell (p := ⟨g, o + i * 2, none⟩) hgw).trans c0
          have f0' := (b1.cell (p := ⟨gP, oP, none⟩) hgPw).trans f0
          have f1' := (b1.cell (p := ⟨gP, oP + 1, none⟩) hgPw).trans f1
          have c0'' := (bb.cell (p := ⟨g, o + i * 2, none⟩) hgw).trans c0
          have k1' := k1.below b2 (by rw [hs1]; exact Nat.lt_succ_self _)
          obtain ⟨⟨x0, x1⟩, -⟩ := Box.pair k1'
          obtain ⟨⟨y0, y1⟩, y2, y3⟩ := Box.pair k2
          by_cases hk1 : k + 1 < m
          · obtain ⟨g', o', e', -, h0, h1⟩ := hpr.pt (i := k + 1) (by rw [HM.out]; exact hk1)
            cases e'
            rw [← getD_get (by rw [HM.out]; exact hk1)] at h0 h1
            have hnx : nextP P k = P.getD (k + 1) pt0 := if_pos (by rw [HM.out]; exact hk1)
            obtain ⟨b, hb⟩ : ∃ b, P.getD (k + 1) pt0 = b := ⟨_, rfl⟩
            rw [hb] at h0 h1 hnx
            rw [hnx] at hold hnew
            obtain ⟨bx, bY⟩ := b
            dsimp only at h0 h1
            have h0' := (bb.cell (p := ⟨gP, oP + (k + 1) * 2, none⟩) hgPw).trans h0
            have h1' := (bb.cell (p := ⟨gP, oP + (k + 1) * 2 + 1, none⟩) hgPw).trans h1
            obtain ⟨U, hU, kU, ⟨u0, u1⟩, bU⟩ := k2.stored2 (.int .i64 bx) (.int .i64 bY)
            have k1U : Box U wr.heap.size 42 [.int .i64 ax, .int .i64 ay] := by rw [← hU]; exact (k1'.far (p := ⟨wr.heap.size + 1, 0, none⟩) (by show wr.heap.size ≠ wr.heap.size + 1; omega) _).far (p := ⟨wr.heap.size + 1, 1, none⟩) (by show wr.heap.size ≠ wr.heap.size + 1; omega) _
            obtain ⟨⟨v0, v1⟩, -⟩ := Box.pair k1U
            have bw := bb.trans (bU wr.heap.size (by omega))
            have HXX := Lib.hid (And.intro (own_below hownk bw) (hBk.trans (bw.mono hBk.size)))
            have m1 : IntKind.i64.wrap ((k : Int) + 1) = (k : Int) + 1 := IntWalk.i64_in _ (by omega)
            have m2 : (k : Int) + 1 < (m : Int) := by omega
            have m3 : 0 ≤ (k : Int) + 1 ∧ (k : Int) + 1 < (m : Int) := by omega
            have m4 : ((k : Int) + 1).toNat = k + 1 := by omega
            have hGo := hold
            have hGn := hnew
            clear hold hnew k1 k2 k1' kU k1U b1 b2 bb bU bw hownk hBk hb ha hz hnx hpr hle
            by_cases hx : ax = bx
            · subst hx
              by_cases hy : ay = bY
              · subst hy
                have HOL := Lib.hid (hGo rfl)
                clear hGo hGn
                go_wp2_with first
                  | (rw [hV1])
                  | (rw [hV2])
                try rw [hU]
                go_roundg (m - (k + 1))
                case measure => have := HGK.out; omega
                case rel => exact ⟨k + 1, by simp, by omega, by rw [HOL.out]; exact HXX.out.1, HXX.out.2⟩
              · have hyb : (ay == bY) = false := by simpa using hy
                have HNW := Lib.hid (hGn (fun h => hy (congrArg Pt.y h)))
                clear hGo hGn
                go_wp2_with first
                  | (rw [hV1])
                  | (rw [hV2])
                  | (at_builtin; refine wpList_append_own _ rfl _ _ 38 rfl w.heap.size 44 i0 (.agg #[.int .i64 0, .int .i64 0, .int .i64 0, .int .i64 0]) 4 32 Try.underlying38 hi0 hz0 hz1 hz2 rfl (by decide) _ (S ++ segTo P k).length _ rfl (HXX.out.1.alloc _) ⟨U.heap.size, 0, none⟩ 1 1 [.int .i64 ax, .int .i64 ay, .int .i64 ax, .int .i64 bY] rfl rfl (four_new _ _ _ _ _ _) (by simp [Value.oneCell']) (by unfold maxLen; omega) (by omega) (by have h1 := HXX.out.2.size; simp; omega) ?_; intro v' w3 hown' hgrow _; replace hown' := Lib.hid hown'; replace hgrow := Lib.hid hgrow)
                have hBs := below_grow2 (HXX.out.2.alloc HXX.out.2.size (.cells #[.int .i64 ax, .int .i64 ay, .int .i64 ax, .int .i64 bY] 44)) (HXX.out.1.alloc _) (by have h1 := HXX.out.2.size; simp; omega) hgrow.out
                have hstep : w3.ownsRow w.heap.size 44 4 v' (S ++ segTo P (k + 1)).length (sgRow (S ++ segTo P (k + 1))) := by
                  rw [HNW.out, ← List.append_assoc, sgRow_append, List.length_append]
                  exact hown'.out
                go_roundg (m - (k + 1))
                case measure => have := HGK.out; omega
                case rel => exact ⟨k + 1, by simp, by omega, hstep, hBs⟩
            · have hxb : (ax == bx) = false := by simpa using hx
              have HNW := Lib.hid (hGn (fun h => hx (congrArg Pt.x h)))
              clear hGo hGn
              go_wp2_with first
                | (rw [hV1])
                | (rw [hV2])
                | (at_builtin; refine wpList_append_own _ rfl _ _ 38 rfl w.heap.size 44 i0 (.agg #[.int .i64 0, .int .i64 0, .int .i64 0, .int .i64 0]) 4 32 Try.underlying38 hi0 hz0 hz1 hz2 rfl (by decide) _ (S ++ segTo P k).length _ rfl (HXX.out.1.alloc _) ⟨U.heap.size, 0, none⟩ 1 1 [.int .i64 ax, .int .i64 ay, .int .i64 bx, .int .i64 bY] rfl rfl (four_new _ _ _ _ _ _) (by simp [Value.oneCell']) (by unfold maxLen; omega) (by omega) (by have h1 := HXX.out.2.size; simp; omega) ?_; intro v' w3 hown' hgrow _; replace hown' := Lib.hid hown'; replace hgrow := Lib.hid hgrow)
              have hBs := below_grow2 (HXX.out.2.alloc HXX.out.2.size (.cells #[.int .i64 ax, .int .i64 ay, .int .i64 bx, .int .i64 bY] 44)) (HXX.out.1.alloc _) (by have h1 := HXX.out.2.size; simp; omega) hgrow.out
              have hstep : w3.ownsRow w.heap.size 44 4 v' (S ++ segTo P (k + 1)).length (sgRow (S ++ segTo P (k + 1))) := by
                rw [HNW.out, ← List.append_assoc, sgRow_append, List.length_append]
                exact hown'.out
              go_roundg (m - (k + 1))
              case measure => have := HGK.out; omega
              case rel => exact ⟨k + 1, by simp, by omega, hstep, hBs⟩
          · have hkm : k + 1 = m := by omega
            have hnx : nextP P k = P.getD 0 pt0 := if_neg (by rw [HM.out]; exact hk1)
            rw [hnx, hz] at hold hnew
            have HXX := Lib.hid (And.intro (own_below hownk bb) (hBk.trans (bb.mono hBk.size)))
            have m1 : IntKind.i64.wrap ((k : Int) + 1) = (k : Int) + 1 := IntWalk.i64_in _ (by omega)
            have m2 : ¬ (k : Int) + 1 < (m : Int) := by omega
            have hGo := hold
            have hGn := hnew
            have hU : V2 = V2 := rfl
            clear hold hnew k1 k2 k1' b1 b2 bb hownk hBk ha hz hnx hpr hle hkm
            by_cases hx : ax = zx
            · subst hx
              by_cases hy : ay = zy
              · subst hy
                have HOL := Lib.hid (hGo rfl)
                clear hGo hGn
                go_wp2_with first
                  | (rw [hV1])
                  | (rw [hV2])
                try rw [hU]
                go_roundg (m - (k + 1))
                case measure => have := HGK.out; omega
                case rel => exact ⟨k + 1, by simp, by omega, by rw [HOL.out]; exact HXX.out.1, HXX.out.2⟩
              · have hyb : (ay == zy) = false := by simpa using hy
                have HNW := Lib.hid (hGn (fun h => hy (congrArg Pt.y h)))
                clear hGo hGn
                go_wp2_with first
                  | (rw [hV1])
                  | (rw [hV2])
                  | (at_builtin; refine wpList_append_own _ rfl _ _ 38 rfl w.heap.size 44 i0 (.agg #[.int .i64 0, .int .i64 0, .int .i64 0, .int .i64 0]) 4 32 Try.underlying38 hi0 hz0 hz1 hz2 rfl (by decide) _ (S ++ segTo P k).length _ rfl (HXX.out.1.alloc _) ⟨V2.heap.size, 0, none⟩ 1 1 [.int .i64 ax, .int .i64 ay, .int .i64 ax, .int .i64 zy] rfl rfl (four_new _ _ _ _ _ _) (by simp [Value.oneCell']) (by unfold maxLen; omega) (by omega) (by have h1 := HXX.out.2.size; simp; omega) ?_; intro v' w3 hown' hgrow _; replace hown' := Lib.hid hown'; replace hgrow := Lib.hid hgrow)
                have hBs := below_grow2 (HXX.out.2.alloc HXX.out.2.size (.cells #[.int .i64 ax, .int .i64 ay, .int .i64 ax, .int .i64 zy] 44)) (HXX.out.1.alloc _) (by have h1 := HXX.out.2.size; simp; omega) hgrow.out
                have hstep : w3.ownsRow w.heap.size 44 4 v' (S ++ segTo P (k + 1)).length (sgRow (S ++ segTo P (k + 1))) := by
                  rw [HNW.out, ← List.append_assoc, sgRow_append, List.length_append]
                  exact hown'.out
                go_roundg (m - (k + 1))
                case measure => have := HGK.out; omega
                case rel => exact ⟨k + 1, by simp, by omega, hstep, hBs⟩
            · have hxb : (ax == zx) = false := by simpa using hx
              have HNW := Lib.hid (hGn (fun h => hx (congrArg Pt.x h)))
              clear hGo hGn
              go_wp2_with first
                | (rw [hV1])
                | (rw [hV2])
                | (at_builtin; refine wpList_append_own _ rfl _ _ 38 rfl w.heap.size 44 i0 (.agg #[.int .i64 0, .int .i64 0, .int .i64 0, .int .i64 0]) 4 32 Try.underlying38 hi0 hz0 hz1 hz2 rfl (by decide) _ (S ++ segTo P k).length _ rfl (HXX.out.1.alloc _) ⟨V2.heap.size, 0, none⟩ 1 1 [.int .i64 ax, .int .i64 ay, .int .i64 zx, .int .i64 zy] rfl rfl (four_new _ _ _ _ _ _) (by simp [Value.oneCell']) (by unfold maxLen; omega) (by omega) (by have h1 := HXX.out.2.size; simp; omega) ?_; intro v' w3 hown' hgrow _; replace hown' := Lib.hid hown'; replace hgrow := Lib.hid hgrow)
              have hBs := below_grow2 (HXX.out.2.alloc HXX.out.2.size (.cells #[.int .i64 ax, .int .i64 ay, .int .i64 zx, .int .i64 zy] 44)) (HXX.out.1.alloc _) (by have h1 := HXX.out.2.size; simp; omega) hgrow.out
              have hstep : w3.ownsRow w.heap.size 44 4 v' (S ++ segTo P (k + 1)).length (sgRow (S ++ segTo P (k + 1))) := by
                rw [HNW.out, ← List.append_assoc, sgRow_append, List.length_append]
                exact hown'.out
              go_roundg (m - (k + 1))
              case measure => have := HGK.out; omega
              case rel => exact ⟨k + 1, by simp, by omega, hstep, hBs⟩
        · obtain rfl : k = m := by omega
          have hq : S ++ segTo P k = segsI V (i + 1) := by rw [HST.out]; unfold segsOf; rw [HM.out]
          rw [hq] at hownk
          have HE := Lib.hid (And.intro hownk hBk)
          clear hownk hBk hq
          go_wp2_with fail
          go_roundg (n - (i + 1))
          case measure => have := HG.out; omega
          case rel => exact ⟨i + 1, by simp, by omega, HE.out.1, HE.out.2⟩
    · obtain rfl : i = n := by omega
      obtain ⟨p, k, rfl, hk, -, hr⟩ := RdV.ofOwnK hown
      have HE := Lib.hid (And.intro hr hB)
      clear hown hr hB
      go_wp2_with fail
      go_ret
      exact ⟨⟨p, k, rfl, HE.out.1⟩, HE.out.2⟩
end Go.Proofs.Ytbgjpmijegeeiaa
/- Paths: lines that a call hands back. -/

namespace Go.Proofs.Ytbgjpmijegeeiaa
open Go.RowKit

theorem traceGo_step {l : List St} {i : Nat} (hi : i < l.length) (now : List Pt) : traceGo now (l.drop i) = (if l[i].op = 1 ∨ l[i].op = 5 then flushM now (decide (l[i].op = 5)) else []) ++ traceGo (nowM now l[i] ++ pointsM (lastP (nowM now l[i])) l[i]) (l.drop (i + 1)) := by
  rw [List.drop_eq_getElem_cons hi]
  rfl
theorem traceGo_end (now : List Pt) (l : List St) : traceGo now (l.drop l.length) = flushM now false := by rw [List.drop_length]; rfl
theorem Lv.all_snoc (V : List Lv) (x : Lv) : Lv.all (V ++ [x]) = Lv.all V ++ [x.ln] := by simp [Lv.all]
theorem row_news {w : World} {b o : Nat} {xs : List Value} (hc : ∀ (j : Nat) (h : j < xs.length), w.cell? ⟨b, o + j, none⟩ = some xs[j]) : ∀ j u, xs[j]? = some u → w.cell? ((⟨b, o, none⟩ : Addr).add j) = some u := fun j u e => by
  obtain ⟨h, e2⟩ := List.getElem?_eq_some_iff.1 e
  rw [← e2, addr_add]
  exact hc j h
theorem one_ptRow (l : List Pt) : ∀ u ∈ ptRow l, u.oneCell' = true := fun u hu => by
  unfold ptRow at hu
  obtain ⟨p, -, h⟩ := List.mem_flatMap.1 hu
  simp [ptCells] at h
  rcases h with rfl | rfl <;> rfl
/-- lines that a call hands back, and an error -/
def GivesLn (T : List Ln) (E : Int) (w : World) (e : Ending) (w' : World) : Prop := (∃ q k V, e = .returned (.tuple #[.slice q (List.length T) k, .int .i64 E]) ∧ Lv.all V = T ∧ RdLn w' w'.heap.size q V) ∧ Below w.heap.size w w'
end Go.Proofs.Ytbgjpmijegeeiaa
/- Paths, the document's own: lines that are the same. -/

namespace Go.Proofs.Ytbgjpmijegeeiaa
open Go.RowKit

set_option maxRecDepth 10000 in
set_option maxHeartbeats 3200000 in
theorem ref12_Same (V U : List Lv) (hVU : Lv.all V = Lv.all U) (A B : Option Addr) (c d : Nat) (w : World) (ha : RdLn w w.heap.size A V) (hb : RdLn w w.heap.size B U) (hl : V.length ≤ 4611686018427387904) (hp : ∀ x ∈ V, x.pts.length ≤ 4611686018427387904) :
    Calls Try.prog 10 #[.slice A V.length c, .slice B U.length d] w fun e w' => e = .returned (.bool true) ∧ Below w.heap.size w w' := by
  have hlu : V.length = U.length := by have := congrArg List.length hVU; simpa [Lv.all] using this
  obtain ⟨n, hn⟩ : ∃ n, V.length = n := ⟨_, rfl⟩
  have HN := Lib.hid hn
  have HU := Lib.hid (hlu.symm.trans hn)
  have HR := Lib.hid (And.intro ha hb)
  have HP := Lib.hid hp
  have HE := Lib.hid hVU
  rw [← hlu, hn]
  rw [hn] at hl
  clear hn ha hb hlu hp hVU
  go_enter Try.func10, Try.ntmps10
  go_wp2_with fail
  go_loopg [5] n (fun gh it wr => ∃ i : Nat, it = .int .i64 (i : Int) ∧ gh + i = n ∧ Below w.heap.size w wr)
  case atStart => exact ⟨0, rfl, by omega, Below.refl _ _⟩
  case round =>
    obtain ⟨i, rfl, hg, hB⟩ := hrel
    have HG := Lib.hid hg
    by_cases hlt : i < n
    · have h1 : i < V.length := by rw [HN.out]; exact hlt
      have h2 : i < U.length := by rw [HU.out]; exact hlt
      obtain ⟨g, o, rfl, hg1, -⟩ := (HR.out.1.below hB).row h1
      obtain ⟨g', o', rfl, hg2, -⟩ := (HR.out.2.below hB).row h2
      have hc1 := fun X (h : Below w.heap.size w X) => (HR.out.1.below h).row h1
      have hc2 := fun X (h : Below w.heap.size w X) => (HR.out.2.below h).row h2
      have he : V[i].ln = U[i].ln := by
        have h3 := congrArg (fun l => l[i]?) HE.out
        simpa [Lv.all, h1, h2] using h3
      have hpx := HP.out _ (List.getElem_mem h1)
      obtain ⟨x, hx⟩ : ∃ x, V[i] = x := ⟨_, rfl⟩
      obtain ⟨y, hy⟩ : ∃ y, U[i] = y := ⟨_, rfl⟩
      simp only [hx] at hc1
      simp only [hy] at hc2
      rw [hx] at hpx
      rw [hx, hy] at he
      obtain ⟨XA, XC, P, cl⟩ := x
      obtain ⟨YA, YC, Q, cm⟩ := y
      obtain ⟨rfl, rfl⟩ : P = Q ∧ cl = cm := by simpa [Lv.ln] using he
      dsimp only at hc1 hc2 hpx
      have cS := fun X (h : Below w.heap.size w X) (k1 k2 : Nat) => show Calls Try.prog 25 #[.slice XA P.length k1, .slice YA P.length k2] X (fun e w' => e = .returned (.bool true) ∧ Below X.heap.size X w') from by
        refine (ref10_Same XA YA k1 k2 P P X ?_ ?_ (by omega)).mono ?_
        · obtain ⟨_, _, _, _, _, _, hr⟩ := hc1 X h; exact hr.mono h.size
        · obtain ⟨_, _, _, _, _, _, hr⟩ := hc2 X h; exact hr.mono h.size
        · rintro e w' ⟨⟨b, rfl, hb⟩, hh⟩
          have : b = true := by simpa using hb
          rw [this]
          exact ⟨rfl, hh⟩
      have hcc := fun X (h : Below w.heap.size w X) => show (X.cell? ⟨g, o + i * 2, none⟩ = some (.slice XA P.length XC) ∧ X.cell? ⟨g, o + i * 2 + 1, none⟩ = some (.bool cl) ∧ X.cell? ⟨g', o' + i * 2, none⟩ = some (.slice YA P.length YC) ∧ X.cell? ⟨g', o' + i * 2 + 1, none⟩ = some (.bool cl)) ∧ Below w.heap.size w X from by
        obtain ⟨_, _, e1, _, a0, a1, _⟩ := hc1 X h
        cases e1
        obtain ⟨_, _, e2, _, b0, b1, _⟩ := hc2 X h
        cases e2
        exact ⟨⟨a0, a1, b0, b1⟩, h⟩
      obtain ⟨m, hm⟩ : ∃ m, P.length = m := ⟨_, rfl⟩
      simp only [hm] at cS hcc
      have HCC := Lib.hid hcc
      have CS := Lib.hid cS
      have G0 := Lib.hid hB.drew
      have HH := Lib.hid (hcc wr.drew hB.drew)
      have hil : (i : Int) < (n : Int) := by omega
      clear hc1 hc2 cS hcc hB he hpx hx hy h1 h2 hm
      go_wp2_with fail
      go_region_held3 (fun w' => (w'.cell? ⟨g, o + i * 2, none⟩ = some (.slice XA m XC) ∧ w'.cell? ⟨g, o + i * 2 + 1, none⟩ = some (.bool cl) ∧ w'.cell? ⟨g', o' + i * 2, none⟩ = some (.slice YA m YC) ∧ w'.cell? ⟨g', o' + i * 2 + 1, none⟩ = some (.bool cl)) ∧ Below w.heap.size w w')
        (first
          | (with_reducible exact HH.out)
          | (with_reducible exact HCC.out _ G1.out))
        ((go_at_call 25; (with_reducible refine Calls.mono (CS.out _ G0.out _ _) ?_); rintro e w3 ⟨rfl, b3⟩; have G1 := Lib.hid (G0.out.trans (b3.mono G0.out.size)); clear b3))
      go_wp2_with fail
      go_roundg (n - (i + 1))
      case measure => have := HG.out; omega
      case rel => exact ⟨i + 1, by simp, by omega, G1.out⟩
    · have HB := Lib.hid hB
      clear hB
      have hil : ¬ (i : Int) < (n : Int) := by omega
      go_wp2_with fail
      go_ret
      exact ⟨rfl, HB.out⟩
end Go.Proofs.Ytbgjpmijegeeiaa
/- Paths: how many points and ways there are (mathematics). -/

namespace Go.Proofs.Ytbgjpmijegeeiaa

theorem flush_two (now : List Pt) (c : Bool) : ∀ x ∈ flushM now c, 1 < x.pts.length := fun x hx => by
  unfold flushM at hx
  split at hx
  · rename_i h
    simp at hx
    subst hx
    exact h
  · simp at hx
theorem traceGo_two : ∀ (l : List St) (now : List Pt), ∀ x ∈ traceGo now l, 1 < x.pts.length
  | [], now, x, hx => flush_two now false x hx
  | s :: r, now, x, hx => by
    unfold traceGo at hx
    rcases List.mem_append.1 hx with h | h
    · split at h
      · exact flush_two _ _ x h
      · simp at h
    · exact traceGo_two r _ x h
theorem traceM_two (l : List St) : ∀ x ∈ traceM l, 1 < x.pts.length := fun x hx => by
  unfold traceM at hx
  split at hx
  · exact traceGo_two l [] x hx
  · simp at hx
theorem moreM_mem : ∀ {l : List Ln} {x : Ln}, x ∈ l → x.pts.length - 1 ≤ moreM l
  | y :: l, x, h => by
    rcases List.mem_cons.1 h with rfl | h
    · simp [moreM]
    · have := moreM_mem h
      simp only [moreM]
      omega
theorem moreM_two : ∀ {l : List Ln}, (∀ x ∈ l, 1 < x.pts.length) → l.length ≤ moreM l
  | [], _ => by simp [moreM]
  | y :: l, h => by
    have h1 := h y (by simp)
    have h2 := moreM_two (l := l) (fun x hx => h x (List.mem_cons_of_mem _ hx))
    simp only [moreM, List.length_cons]
    omega
theorem check_few {l : List St} (h : checkM l = 0) : l.length ≤ 200 := by
  unfold checkM at h
  split at h
  · omega
  · omega
theorem trace_moreM (l : List St) : moreM (traceM l) ≤ 6400 := by
  unfold traceM
  split
  · rename_i hc
    have hg : checkGo none l = 0 := by
      unfold checkM at hc
      split at hc
      · omega
      · exact hc
    have h1 := trace_more l [] pt0 none hg (fun o h => by cases h)
    have h2 := countGo_le l pt0
    have h3 := check_few hc
    simp only [List.length_nil] at h1
    omega
  · simp [moreM]
theorem trace_lines (l : List St) : (traceM l).length ≤ 6400 := Nat.le_trans (moreM_two (traceM_two l)) (trace_moreM l)
theorem trace_pts {l : List St} {x : Ln} (h : x ∈ traceM l) : x.pts.length ≤ 6401 := by
  have h1 := moreM_mem h
  have h2 := trace_moreM l
  omega
theorem sumP_more : ∀ V : List Lv, sumP V ≤ moreM (Lv.all V) + V.length
  | [] => by simp [sumP]
  | x :: V => by
    have h := sumP_more V
    have e : Lv.all (x :: V) = x.ln :: Lv.all V := rfl
    rw [e]
    simp only [sumP, moreM, List.length_cons, Lv.ln]
    omega
theorem trace_sum {l : List St} {V : List Lv} (h : Lv.all V = traceM l) : sumP V ≤ 12800 ∧ V.length ≤ 6400 ∧ ∀ x ∈ V, x.pts.length ≤ 6401 := by
  have h1 := sumP_more V
  have h2 := trace_moreM l
  have h3 := trace_lines l
  have h4 : V.length = (traceM l).length := by rw [← h]; simp [Lv.all]
  rw [h] at h1
  refine ⟨by omega, by omega, fun x hx => ?_⟩
  have h5 : x.ln ∈ traceM l := by rw [← h]; exact List.mem_map.2 ⟨x, hx, rfl⟩
  exact trace_pts h5
end Go.Proofs.Ytbgjpmijegeeiaa
