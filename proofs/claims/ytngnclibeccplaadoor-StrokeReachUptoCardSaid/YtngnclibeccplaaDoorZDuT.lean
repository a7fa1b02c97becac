/- Rows of points put together: the program's own slices.Grow at nil, slices.Concat. -/
import Derived.Test.YtngnclibeccplaaDoorZDuV
import Derived.Test.YtngnclibeccplaaDoorZOaB
import Derived.Lib.AppendZeros
import Derived.Test.YtngnclibeccplaaDoorZDsY
import Derived.BigQuiet
namespace Go.Proofs.YtngnclibeccplaaDoor
open Go.RowKit Num

/-- a row as it is handed over -/
structure Rc where
  A : Addr
  c : Nat
  pts : List Pt
def rcCells (l : List Rc) : List Value := l.map (fun x => .slice (some x.A) x.pts.length x.c)
theorem rcCells_length (l : List Rc) : (rcCells l).length = l.length := by simp [rcCells]
def flatR (l : List Rc) : List Pt := l.flatMap (·.pts)
theorem RdV.rc {w : World} {B : Nat} {p : Option Addr} {l : List Rc} (h : RdV w B p (rcCells l)) {i : Nat} (hi : i < l.length) : ∃ b o, p = some ⟨b, o, none⟩ ∧ b < B ∧ w.cell? ⟨b, o + i, none⟩ = some (.slice (some l[i].A) l[i].pts.length l[i].c) := by
  obtain ⟨b, o, h1, h2, h3⟩ := h (by rw [rcCells_length]; omega)
  exact ⟨b, o, h1, h2, by rw [h3 i (by rw [rcCells_length]; exact hi)]; simp [rcCells]⟩
theorem flat_take {l : List Rc} {i : Nat} (hi : i < l.length) : flatR (l.take (i + 1)) = flatR (l.take i) ++ l[i].pts := by
  unfold flatR
  rw [List.take_succ_eq_append_getElem hi, List.flatMap_append]
  simp
theorem flat_le (l : List Rc) (i : Nat) : (flatR (l.take i)).length ≤ (flatR l).length := by
  have e : flatR l = flatR (l.take i) ++ flatR (l.drop i) := by
    unfold flatR
    rw [← List.flatMap_append, List.take_append_drop]
  rw [e, List.length_append]
  omega
theorem one_pts (L : List Pt) : ∀ u ∈ ptRow L, u.oneCell' = true := by
  intro u hu
  obtain ⟨p, -, hp⟩ := List.mem_flatMap.1 hu
  simp only [ptCells, List.mem_cons, List.not_mem_nil, or_false] at hp
  rcases hp with rfl | rfl <;> rfl
theorem src_pts {w : World} {B : Nat} {a : Addr} {L : List Pt} (h : RdV w B (some a) (ptRow L)) {V : World} (hb : Below B w V) : ∀ j u, (ptRow L)[j]? = some u → V.cell? (a.add j) = some u := by
  intro j u hu
  obtain ⟨h1, rfl⟩ := List.getElem?_eq_some_iff.1 hu
  obtain ⟨b, o, e, hb2, hc⟩ := h (by omega)
  cases e
  rw [addr_add]
  exact (hb.cell (p := ⟨b, o + j, none⟩) hb2).trans (hc j h1)

end Go.Proofs.YtngnclibeccplaaDoor
/- Neighbours that are the same, left out: the program's own slices.Compact at points. -/

namespace Go.Proofs.YtngnclibeccplaaDoor
open Go.RowKit Num

theorem once_same {L : List Pt} {i : Nat} (h0 : 0 < i) (h : L.getD i pt0 = L.getD (i - 1) pt0) : onceTo L (i + 1) = onceTo L i := by
  rw [once_next, if_neg ?_]
  rintro (k | k)
  · omega
  · exact k h
theorem once_diff {L : List Pt} {i : Nat} (h : L.getD i pt0 ≠ L.getD (i - 1) pt0) : onceTo L (i + 1) = onceTo L i ++ [L.getD i pt0] := by
  rw [once_next, if_pos (.inr h)]
/-- the row on the way: i points are done -/
def compR (L : List Pt) (i : Nat) : List Pt := onceTo L i ++ L.drop (onceTo L i).length
theorem compR_length {L : List Pt} {i : Nat} (h : i ≤ L.length) : (compR L i).length = L.length := by
  have := onceTo_le L i
  unfold compR
  rw [List.length_append, List.length_drop]
  omega
theorem compR_at {L : List Pt} {i j : Nat} (h1 : (onceTo L i).length ≤ j) (h2 : j < (compR L i).length) (h3 : j < L.length) : (compR L i)[j] = L.getD j pt0 := by
  have e : (compR L i)[j]? = some (L.getD j pt0) := by
    unfold compR
    rw [List.getElem?_append_right h1, List.getElem?_drop, show (onceTo L i).length + (j - (onceTo L i).length) = j by omega, getD_lt h3, List.getElem?_eq_getElem h3]
  rw [List.getElem?_eq_getElem h2] at e
  exact Option.some.inj e
theorem compR_step {L : List Pt} {i : Nat} (hk : (onceTo L i).length < L.length) (h : L.getD i pt0 ≠ L.getD (i - 1) pt0) : (compR L i).set (onceTo L i).length (L.getD i pt0) = compR L (i + 1) := by
  unfold compR
  rw [once_diff h, List.set_append_right _ _ (Nat.le_refl _), Nat.sub_self, List.length_append, List.drop_eq_getElem_cons hk, List.set_cons_zero]
  simp
theorem compR_stay {L : List Pt} {i : Nat} (h0 : 0 < i) (h : L.getD i pt0 = L.getD (i - 1) pt0) : compR L (i + 1) = compR L i := by
  unfold compR
  rw [once_same h0 h]
theorem compR_first {L : List Pt} {k : Nat} (h0 : 0 < k) (h : onceTo L k = L.take k) (hk : k < L.length) (he : L.getD k pt0 = L.getD (k - 1) pt0) : compR L (k + 1) = L ∧ (onceTo L (k + 1)).length = k := by
  have e : (L.take k).length = k := by rw [List.length_take]; omega
  unfold compR
  rw [once_same h0 he, h, e]
  exact ⟨List.take_append_drop _ _, rfl⟩
theorem take_next {L : List Pt} {k : Nat} (hk : k < L.length) (h : onceTo L k = L.take k) (hd : L.getD k pt0 ≠ L.getD (k - 1) pt0) : onceTo L (k + 1) = L.take (k + 1) := by
  rw [once_diff hd, h, List.take_succ_eq_append_getElem hk, getD_lt hk]
theorem take_one {L : List Pt} (h : 0 < L.length) : onceTo L 1 = L.take 1 := by
  show (if 0 = 0 ∨ L.getD 0 pt0 ≠ L.getD (0 - 1) pt0 then onceTo L 0 ++ [L.getD 0 pt0] else onceTo L 0) = _
  rw [if_pos (.inl rfl), List.take_succ_eq_append_getElem h, getD_lt h]
  rfl
theorem once_short {L : List Pt} (h : L.length < 2) : onceM L = L := by
  match L, h with
  | [], _ => rfl
  | [a], _ => rfl
theorem flat_takeK : ∀ (l : List Pt) (k : Nat), (ptRow l).take (k * 2) = ptRow (l.take k)
  | [], k => by simp [ptRow]
  | p :: l, 0 => by simp [ptRow]
  | p :: l, k + 1 => by
    have h := flat_takeK l k
    rw [show (k + 1) * 2 = k * 2 + 1 + 1 by omega]
    show (.int .i64 p.x :: .int .i64 p.y :: ptRow l).take (k * 2 + 1 + 1) = _
    rw [List.take_succ_cons, List.take_succ_cons, h]
    rfl
/-- clear, at the end of a row of points -/
theorem run_clear_pts {w : World} {g : Nat} {l : List Pt} {R : List Value} (h : Lies w g l R) {k : Nat} (hk : k < l.length) (D c : Nat) (hD : l.length - k = D) :
    ∃ W' R', (∀ ty, (Builtin.clear_ #[22] ty #[.slice (some ⟨g, k * 2, none⟩) D c]).run Tryd.prog w = .ok (.tuple #[]) W') ∧ Lies W' g (l.take k) R' ∧ R'.length + 2 * k = R.length + 2 * l.length ∧ Below g w W' := by
  obtain ⟨i0, hi0, hz0, hz1, hz2⟩ := info_parts info_pt
  have hl := ptRow_length l
  have hzv : ∀ w, (zeroValue 34).run Tryd.prog w = .ok (.agg #[.int .i64 0, .int .i64 0]) w := fun w => by simp [zeroValue, typeInfo, hi0, hz0]
  have hzl : (Builtin.zeroCells (Value.agg #[.int .i64 0, .int .i64 0]).cells D).toList.length = D * 2 := by simp [Builtin.zeroCells, Value.cells]
  have hone : ∀ v ∈ (Builtin.zeroCells (Value.agg #[.int .i64 0, .int .i64 0]).cells D).toList, v.oneCell' = true := by
    intro v hv
    simp only [Builtin.zeroCells, Array.toList_map, List.mem_map] at hv
    obtain ⟨j, -, rfl⟩ := hv
    have hs : (Value.agg #[.int .i64 0, .int .i64 0]).cells.size = 2 := rfl
    have hj : j % 2 < 2 := Nat.mod_lt _ (by omega)
    rw [hs]
    generalize j % 2 = q at hj
    match q, hj with
    | 0, _ => rfl
    | 1, _ => rfl
  have hst := run_storeCells_at Tryd.prog g (k * 2) 34 (Builtin.zeroCells (Value.agg #[.int .i64 0, .int .i64 0]).cells D).toList 0 (ptRow l ++ R).toArray w h (by simp only [List.size_toArray, List.length_append, hzl]; omega) hone
  have htk : (ptRow l ++ R).take (k * 2) = ptRow (l.take k) := by
    rw [List.take_append_of_le_length (by omega)]
    exact flat_takeK l k
  obtain ⟨Zs, hZs⟩ : ∃ z, (Builtin.zeroCells (Value.agg #[.int .i64 0, .int .i64 0]).cells D).toList = z := ⟨_, rfl⟩
  rw [hZs] at hst
  have hlist : ((ptRow l ++ R).toArray.toList.take (k * 2 + 0) ++ Zs ++ (ptRow l ++ R).toArray.toList.drop (k * 2 + 0 + Zs.length)) = ptRow (l.take k) ++ (Zs ++ (ptRow l ++ R).drop (k * 2 + Zs.length)) := by
    rw [Nat.add_zero, List.append_assoc]
    show (ptRow l ++ R).take (k * 2) ++ _ = _
    rw [htk]
  rw [hlist] at hst
  refine ⟨_, Zs ++ (ptRow l ++ R).drop (k * 2 + Zs.length), fun ty => ?_, setRow_heap w g _ _ _ _ h, ?_, below_setRow (Below.refl _ _) (Nat.le_refl _) _⟩
  · obtain ⟨m, rfl⟩ : ∃ m, D = m + 1 := ⟨D - 1, by omega⟩
    simp [Builtin.clear_, run_underlying Tryd.underlying22, hzv, hZs, hst]
  · have hz3 : Zs.length = D * 2 := by rw [← hZs]; exact hzl
    rw [List.length_append, List.length_drop, List.length_append, hz3]
    omega

/-- what Compact answers -/
def Compd (L : List Pt) (g : Nat) (R : List Value) (c : Nat) (w : World) (e : Ending) (w' : World) : Prop :=
  (∃ R', e = .returned (.slice (some ⟨g, 0, none⟩) (onceM L).length c) ∧ Lies w' g (onceM L) R' ∧ R'.length + 2 * (onceM L).length = R.length + 2 * L.length) ∧ Below g w w'
theorem ne_two {x0 y0 x1 y1 : Int} (h : ¬ (x0 = x1 ∧ y0 = y1)) : ¬ x0 = x1 ∨ (x0 = x1 ∧ ¬ y0 = y1) := by
  by_cases h1 : x0 = x1
  · exact .inr ⟨h1, fun h2 => h ⟨h1, h2⟩⟩
  · exact .inl h1

set_option maxRecDepth 10000 in
set_option maxHeartbeats 6400000 in
theorem slices_Compact (L : List Pt) (g : Nat) (R : List Value) (c : Nat) (w : World) (hL : Lies w g L R) (hl : L.length ≤ 1073741824) (hc : L.length ≤ c) :
    Calls Tryd.prog 23 #[.slice (some ⟨g, 0, none⟩) L.length c] w (Compd L g R c w) := by
  obtain ⟨n, hn⟩ : ∃ n, L.length = n := ⟨_, rfl⟩
  have HN := Lib.hid hn
  have HL := Lib.hid hL
  by_cases h2 : L.length < 2
  · unfold Compd
    rw [once_short h2]
    rw [hn] at h2 ⊢
    have h2' : (n : Int) < 2 := by omega
    clear hn hL
    go_enter Tryd.func23, Tryd.ntmps23
    go_wp2_with fail
    go_ret
    exact ⟨⟨R, rfl, HL.out, rfl⟩, Below.refl _ _⟩
  · have h1 := take_one (L := L) (by omega)
    have HALL := Lib.hid (show ∀ k, n ≤ k → onceTo L n = L.take n → onceM L = L from fun k _ h => by
      unfold onceM
      rw [hn, h, ← hn, List.take_length])
    unfold Compd
    obtain ⟨M, hM⟩ : ∃ M, onceM L = M := ⟨_, rfl⟩
    rw [hM] at HALL ⊢
    have HM := Lib.hid (show M = onceTo L n from by rw [← hM]; unfold onceM; rw [hn])
    rw [hn] at hl hc h2 ⊢
    have h2' : ¬ (n : Int) < 2 := by omega
    have H1 := Lib.hid h1
    clear hn hL h1 hM
    go_enter Tryd.func23, Tryd.ntmps23
    go_wp2_with fail
    go_loopg [3] n (fun gh kv wr => ∃ j : Nat, kv = .int .i64 ((j : Int) + 1) ∧ gh + j = n ∧ j + 1 ≤ n ∧ onceTo L (j + 1) = L.take (j + 1) ∧ Lies wr g L R ∧ Below g w wr)
    case atStart => exact ⟨0, by simp, by omega, by omega, H1.out, HL.out, Below.refl _ _⟩
    case round =>
      obtain ⟨j, rfl, hg, hjn, hon, hli, hB⟩ := hrel
      have hwi : IntKind.i64.wrap ((j : Int) + 1 + 1) = (j : Int) + 1 + 1 := IntWalk.i64_in _ (by omega)
      have HG := Lib.hid hg
      by_cases hlt : j + 1 < n
      · have hlt' : j + 1 < L.length := by rw [HN.out]; exact hlt
        obtain ⟨⟨e0, e1⟩, -⟩ := hli.pt (i := j) (by omega)
        obtain ⟨⟨e2, e3⟩, -⟩ := hli.pt (i := j + 1) hlt'
        rw [← getD_lt (show j < L.length by omega)] at e0 e1
        rw [← getD_lt hlt'] at e2 e3
        have hfs := fun he => compR_first (L := L) (k := j + 1) (by omega) hon hlt' he
        have hnx := fun he => take_next (L := L) (k := j + 1) hlt' hon he
        rw [Nat.add_sub_cancel] at hfs hnx
        have hw1 : IntKind.i64.wrap ((j : Int) + 1 - 1) = (j : Int) := by rw [Int.add_sub_cancel]; exact IntWalk.i64_in _ (by omega)
        have hw2 : IntKind.i64.wrap (j : Int) = (j : Int) := IntWalk.i64_in _ (by omega)
        have j0 : (j : Int) + 1 < (n : Int) := by omega
        have j2 : (j : Int) < (n : Int) := by omega
        have j3 : j < n := by omega
        have j1 : 0 ≤ (j : Int) + 1 ∧ (j : Int) + 1 < (n : Int) := by omega
        have t1 : ((j : Int) + 1).toNat = j + 1 := by omega
        obtain ⟨p0, hp0⟩ : ∃ p, L.getD j pt0 = p := ⟨_, rfl⟩
        obtain ⟨p1, hp1⟩ : ∃ p, L.getD (j + 1) pt0 = p := ⟨_, rfl⟩
        rw [hp0] at e0 e1 hfs hnx
        rw [hp1] at e2 e3 hfs hnx
        obtain ⟨x0, y0⟩ := p0
        obtain ⟨x1, y1⟩ := p1
        dsimp only at e0 e1 e2 e3
        have HFS := Lib.hid hfs
        have HNX := Lib.hid hnx
        have HO := Lib.hid (And.intro hli hB)
        clear hg hon hli hB hfs hnx hlt' hp0 hp1
        by_cases hz : x1 = x0 ∧ y1 = y0
        · obtain ⟨rfl, rfl⟩ := hz
          have HS := Lib.hid (HFS.out rfl)
          clear HFS HNX
          have hcn : ¬ c = j + 1 := by omega
          have b1 : (j : Int) + 1 ≤ (n : Int) := by omega
          have b2 : (n : Int) ≤ (c : Int) := by omega
          obtain ⟨D, hD⟩ : ∃ D, n - (j + 1) = D := ⟨_, rfl⟩
          have hDn : j + 1 + D = n := by omega
          have HDN := Lib.hid hDn
          go_wp2_with fail
          go_quiet (fail)
          have HB2 := Lib.hid (show Lies (wr.drewN nq) g L R ∧ Below g w (wr.drewN nq) from ⟨HO.out.1, below_figE HO.out.2 nq⟩)
          go_wp2_with fail
          clear e0 e1 e2 e3
          go_loopg [3, 5] D (fun gh kv k2v wr2 => ∃ a : Nat, k2v = .int .i64 ((a : Int) + 1) ∧ gh + a = D ∧ a + 1 ≤ D ∧ kv = .int .i64 ((onceTo L (j + a + 2)).length : Int) ∧ (onceTo L (j + a + 2)).length + 1 ≤ j + a + 2 ∧ Lies wr2 g (compR L (j + a + 2)) R ∧ Below g w wr2)
          case atStart => exact ⟨0, by simp, by omega, by have := HDN.out; omega, by have h := HS.out.2; simp [h], by have h := HS.out.2; simp [h], by have h := HS.out.1; simp [h]; exact HB2.out.1, HB2.out.2⟩
          case round =>
            obtain ⟨a, rfl, hg2, haD, rfl, hK1, hli, hB⟩ := hrel
            have hwa : IntKind.i64.wrap ((a : Int) + 1 + 1) = (a : Int) + 1 + 1 := IntWalk.i64_in _ (by omega)
            have HG2 := Lib.hid hg2
            have hDN := HDN.out
            by_cases hlt2 : a + 1 < D
            · have hi : j + a + 2 < L.length := by rw [HN.out]; omega
              have hcl := compR_length (L := L) (i := j + a + 2) (by omega)
              obtain ⟨⟨e0, e1⟩, -⟩ := hli.pt (i := j + a + 1) (by omega)
              obtain ⟨⟨e2, e3⟩, -⟩ := hli.pt (i := j + a + 2) (by omega)
              rw [compR_at (by omega) _ (by omega)] at e0 e1
              rw [compR_at (by omega) _ hi] at e2 e3
              have hsame := fun he => once_same (L := L) (i := j + a + 2) (by omega) he
              have hstay := fun he => compR_stay (L := L) (i := j + a + 2) (by omega) he
              have hdiff := fun he => once_diff (L := L) (i := j + a + 2) he
              have hstep := fun he => compR_step (L := L) (i := j + a + 2) (by omega) he
              have hset := fun (V : World) (h : Lies V g (compR L (j + a + 2)) R) => h.set (i := (onceTo L (j + a + 2)).length) (by omega) (L.getD (j + a + 2) pt0)
              rw [show j + a + 2 - 1 = j + a + 1 by omega] at hsame hstay hdiff hstep
              obtain ⟨p0, hp0⟩ : ∃ p, L.getD (j + a + 1) pt0 = p := ⟨_, rfl⟩
              obtain ⟨p1, hp1⟩ : ∃ p, L.getD (j + a + 2) pt0 = p := ⟨_, rfl⟩
              rw [hp0] at e0 e1 hsame hstay hdiff hstep
              rw [hp1] at e2 e3 hsame hstay hdiff hstep
              simp only [hp1] at hset
              obtain ⟨x0, y0⟩ := p0
              obtain ⟨x1, y1⟩ := p1
              dsimp only at e0 e1 e2 e3 hset
              rw [show (j + a + 1) * 2 = (j + 1) * 2 + a * 2 by omega] at e0 e1
              rw [show (j + a + 2) * 2 = (j + 1) * 2 + (a + 1) * 2 by omega] at e2 e3
              obtain ⟨K, hK⟩ : ∃ k, (onceTo L (j + a + 2)).length = k := ⟨_, rfl⟩
              rw [hK] at hK1 hstep ⊢
              simp only [hK] at hset
              obtain ⟨⟨e4, e5⟩, e6, e7⟩ := hli.pt (i := K) (by omega)
              generalize (compR L (j + a + 2))[K] = zz at e4 e5
              have HK := Lib.hid hK
              have HSA := Lib.hid (And.intro hsame hstay)
              have HDI := Lib.hid (And.intro hdiff hstep)
              have HSET := Lib.hid hset
              have HX := Lib.hid (And.intro hli hB)
              have v1 : IntKind.i64.wrap ((a : Int) + 1 - 1) = (a : Int) := by rw [Int.add_sub_cancel]; exact IntWalk.i64_in _ (by omega)
              have v2 : IntKind.i64.wrap (a : Int) = (a : Int) := IntWalk.i64_in _ (by omega)
              have v3 : IntKind.i64.wrap ((K : Int) + 1) = (K : Int) + 1 := IntWalk.i64_in _ (by omega)
              have c0 : (a : Int) + 1 < (D : Int) := by omega
              have c2 : (a : Int) < (D : Int) := by omega
              have c3 : a < D := by omega
              have c1 : 0 ≤ (a : Int) + 1 ∧ (a : Int) + 1 < (D : Int) := by omega
              have t2 : ((a : Int) + 1).toNat = a + 1 := by omega
              have c4 : (K : Int) < (n : Int) := by omega
              have c5 : K < n := by omega
              clear hg2 hsame hstay hdiff hstep hset hp0 hp1 hK hli hB hi hcl hDN
              by_cases hz : x1 = x0 ∧ y1 = y0
              · obtain ⟨rfl, rfl⟩ := hz
                have HE := Lib.hid (And.intro (HSA.out.1 rfl) (HSA.out.2 rfl))
                clear HSA HDI HSET
                go_wp2_with fail
                go_quiet (fail)
                have HQ := Lib.hid (show Lies (wr.drewN nq) g (compR L (j + a + 2)) R ∧ Below g w (wr.drewN nq) from ⟨HX.out.1, below_figE HX.out.2 nq⟩)
                go_wp2_with fail
                go_roundg (D - (a + 1))
                case measure => have := HG2.out; omega
                case rel => exact ⟨a + 1, by simp, by have := HG2.out; omega, by omega, by rw [← Nat.add_assoc, show j + a + 1 + 2 = j + a + 2 + 1 by omega, HE.out.1, HK.out], by rw [← Nat.add_assoc, show j + a + 1 + 2 = j + a + 2 + 1 by omega, HE.out.1, HK.out]; omega, by rw [← Nat.add_assoc, show j + a + 1 + 2 = j + a + 2 + 1 by omega, HE.out.2]; exact HQ.out.1, HQ.out.2⟩
              · have HE := Lib.hid (show onceTo L (j + a + 2 + 1) = onceTo L (j + a + 2) ++ [⟨x1, y1⟩] ∧ (compR L (j + a + 2)).set K ⟨x1, y1⟩ = compR L (j + a + 2 + 1) from
                  ⟨HDI.out.1 (fun h => hz ⟨congrArg Pt.x h, congrArg Pt.y h⟩), HDI.out.2 (fun h => hz ⟨congrArg Pt.x h, congrArg Pt.y h⟩)⟩)
                clear HSA HDI
                rcases ne_two hz with h3 | ⟨rfl, h3⟩
                all_goals
                  clear hz
                  go_wp2_with fail
                  go_quiet (fail)
                  obtain ⟨X, hX⟩ : ∃ X, wr.drewN nq = X := ⟨_, rfl⟩
                  have HQ := Lib.hid (show Lies X g (compR L (j + a + 2)) R ∧ Below g w X from by rw [← hX]; exact ⟨HX.out.1, below_figE HX.out.2 nq⟩)
                  have f2 : X.cell? ⟨g, (j + 1) * 2 + (a + 1) * 2, none⟩ = some (.int .i64 x1) := by rw [← hX]; exact e2
                  have f3 : X.cell? ⟨g, (j + 1) * 2 + (a + 1) * 2 + 1, none⟩ = some (.int .i64 y1) := by rw [← hX]; exact e3
                  have f4 : X.cell? ⟨g, K * 2, none⟩ = wr.cell? ⟨g, K * 2, none⟩ := by rw [← hX]; rfl
                  have f5 : X.cell? ⟨g, K * 2 + 1, none⟩ = wr.cell? ⟨g, K * 2 + 1, none⟩ := by rw [← hX]; rfl
                  have f6 : X.frozen? ⟨g, K * 2, none⟩ = false := by rw [← hX]; exact e6
                  have f7 : X.frozen? ⟨g, K * 2 + 1, none⟩ = false := by rw [← hX]; exact e7
                  rw [e4] at f4
                  rw [e5] at f5
                  rw [hX]
                  obtain ⟨U, hU, lU, bU⟩ := HSET.out X HQ.out.1
                  rw [HE.out.2] at lU
                  have HF := Lib.hid (And.intro lU (HQ.out.2.trans (bU g (Nat.le_refl _))))
                  have HU := Lib.hid hU
                  clear hX e2 e3 e4 e5 e6 e7 e0 e1 hU lU bU
                  go_wp2_with fail
                  try rw [HU.out]
                  go_roundg (D - (a + 1))
                  case measure => have := HG2.out; omega
                  case rel => exact ⟨a + 1, by simp, by have := HG2.out; omega, by omega, by rw [← Nat.add_assoc, show j + a + 1 + 2 = j + a + 2 + 1 by omega, HE.out.1, List.length_append, HK.out]; rfl, by rw [← Nat.add_assoc, show j + a + 1 + 2 = j + a + 2 + 1 by omega, HE.out.1, List.length_append, HK.out]; simp; omega, by rw [← Nat.add_assoc, show j + a + 1 + 2 = j + a + 2 + 1 by omega]; exact HF.out.1, HF.out.2⟩
            · obtain rfl : D = a + 1 := by omega
              have hni : j + a + 2 = n := by omega
              rw [hni] at hK1 hli ⊢
              have hcl := compR_length (L := L) (i := n) (by rw [HN.out]; exact Nat.le_refl _)
              rw [HN.out] at hcl
              obtain ⟨K, hK⟩ : ∃ k, (onceTo L n).length = k := ⟨_, rfl⟩
              rw [hK] at hK1 ⊢
              have htk : (compR L n).take K = onceTo L n := by
                unfold compR
                rw [← hK]
                exact List.take_left
              obtain ⟨D2, hD2⟩ : ∃ d, n - K = d := ⟨_, rfl⟩
              obtain ⟨W3, R3, hclr, l3, r3, b3⟩ := run_clear_pts hli (k := K) (by omega) D2 (c - K) (by rw [hcl]; exact hD2)
              rw [htk, ← HM.out] at l3
              rw [hcl] at r3
              have HF := Lib.hid (And.intro l3 (And.intro r3 (hB.trans b3)))
              have HKM := Lib.hid (show M.length = K from by rw [HM.out]; exact hK)
              have d1 : (K : Int) ≤ (n : Int) := by omega
              have d2 : (K : Int) ≤ (c : Int) := by omega
              have d3 : ¬ c = K := by omega
              clear hg2 hK htk hli hB l3 r3 b3 hcl hni hDN
              go_wp2_with fail
              go_ret
              rw [HKM.out]
              exact ⟨⟨R3, rfl, HF.out.1, HF.out.2.1⟩, HF.out.2.2⟩
        · have HE := Lib.hid (HNX.out (fun h => hz ⟨congrArg Pt.x h, congrArg Pt.y h⟩))
          clear HFS HNX
          rcases ne_two hz with h3 | ⟨rfl, h3⟩
          all_goals
            clear hz
            go_wp2_with fail
            go_quiet (fail)
            go_wp2_with fail
            go_roundg (n - (j + 1))
            case measure => have := HG.out; omega
            case rel => exact ⟨j + 1, by simp, by have := HG.out; omega, by omega, HE.out, HO.out.1, below_figE HO.out.2 nq⟩
      · obtain rfl : n = j + 1 := by omega
        have HE := Lib.hid (HALL.out (j + 1) (Nat.le_refl _) hon)
        have HF := Lib.hid (And.intro hli hB)
        have HLN := Lib.hid (show M.length = j + 1 from by rw [HE.out]; exact HN.out)
        clear hg hon hli hB
        go_wp2_with fail
        go_ret
        rw [HLN.out]
        exact ⟨⟨R, rfl, by rw [HE.out]; exact HF.out.1, rfl⟩, HF.out.2⟩
end Go.Proofs.YtngnclibeccplaaDoor
