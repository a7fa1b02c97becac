/- Rows of points put together: the program's own slices.Grow at nil, slices.Concat. -/
import Derived.Test.YtkebffkekinblaaZDuX
import Derived.Test.YtkebffkekinblaaZOaB
import Derived.Lib.AppendZeros
import Derived.Test.YtkebffkekinblaaZDsY
import Derived.BigQuiet
namespace Go.Proofs.Ytkebffkekinblaa
open Go.RowKit Num

set_option maxRecDepth 10000 in
set_option maxHeartbeats 1600000 in
theorem slices_GrowNil (n : Nat) (w : World) (hn : n ≤ 1073741824) :
    Calls Try.prog 48 #[.slice none 0 0, .int .i64 n] w fun e w' => ∃ v, e = .returned v ∧ w'.ownsRow w.heap.size 36 2 v 0 [] ∧ Below w.heap.size w w' := by
  obtain ⟨i0, hi, hz0, hz1, hz2⟩ := info_parts info_pt
  have h1 : ¬ (n : Int) < 0 := by omega
  have hw : IntKind.i64.wrap (n : Int) = (n : Int) := IntWalk.i64_in _ (by omega)
  rcases Nat.eq_zero_or_pos n with h0 | h0
  · have h2 : ¬ (0 : Int) < (n : Int) := by omega
    clear h0
    go_enter Try.func48, Try.ntmps48
    go_wp2_with fail
    go_ret
    exact ⟨_, rfl, World.ownsRow_nil _ _ _ _, Below.refl _ _⟩
  · have h2 : (0 : Int) < (n : Int) := by omega
    have hr := fun ty => Lib.run_append_nil_zeros (P := Try.prog) w 22 3 ty 36 i0 _ .i64 .i64 Try.underlying22 Try.underlying3 hi hz0 n h0 (by omega) (by omega) (by rw [hz2]; omega)
    have hg1 := grownCap_ge w n 0 36
    have hg2 := grownCap_le_maxLen w n 0 36 (by unfold maxLen; omega)
    generalize grownCap w n 0 36 = G at hr hg1 hg2
    have HF := Lib.hid (show (w.drew.alloc (.cells (Builtin.zeroCells (Value.agg #[.int .i64 0, .int .i64 0]).cells n ++ Builtin.zeroCells (Value.agg #[.int .i64 0, .int .i64 0]).cells (G - n)) 36)).ownsRow w.heap.size 36 2 (.slice (some ⟨w.heap.size, 0, none⟩) 0 G) 0 [] ∧ Below w.heap.size w (w.drew.alloc (.cells (Builtin.zeroCells (Value.agg #[.int .i64 0, .int .i64 0]).cells n ++ Builtin.zeroCells (Value.agg #[.int .i64 0, .int .i64 0]).cells (G - n)) 36)) from
      ⟨⟨rfl, .inr ⟨w.heap.size, G, _, rfl, Nat.le_refl _, heap_alloc_new w.drew _, Nat.zero_le _, hg2, by simp [Builtin.zeroCells, Value.cells]; omega, by simp⟩⟩, (Below.refl _ w).drew.alloc (Nat.le_refl _) _⟩)
    have hGz : ¬ (G : Int) < 0 := by omega
    clear hg1 hg2 hi hz0 hz1 hz2 h0
    go_enter Try.func48, Try.ntmps48
    go_wp2_with (at_builtin; refine Lib.wpList_append_run _ rfl _ _ _ _ rfl _ _ rfl rfl _ _ (hr _) ?_)
    go_ret
    exact ⟨_, rfl, HF.out.1, HF.out.2⟩

/-- a row as it is handed over -/
structure Rc where
  A : Addr
  c : Nat
  pts : List Pt
def rcCells (l : List Rc) : List Value := l.map (fun x => .slice (some x.A) x.pts.length x.c)
theorem rcCells_length (l : List Rc) : (rcCells l).length = l.length := by simp [rcCells]
def flatR (l : List Rc) : List Pt := l.flatMap (·.pts)
theorem RdV.rc {w : World} {B : Nat} {p : Option Addr} {l : List Rc} (h : RdV w B p (rcCells l)) {i : Nat} (hi : i < l.length) : ∃ b o, p = some ⟨b, o, none⟩ ∧ b < B ∧ w.cell? ⟨b, o + i, none⟩ = some (.slice (some l[i].A) l[i].pts.length l[i].c) := by
  obtain ⟨b, o, h1, h2, h3⟩ := h (by rw [rcCells_length]; omega)
  exact ⟨b, o, h1, h2, by rw [h3 i (by rw [rcCells_length]; exact hi)]; simp [rcCells]⟩
theorem flat_take {l : List Rc} {i : Nat} (hi : i < l.length) : flatR (l.take (i + 1)) = flatR (l.take i) ++ l[i].pts := by
  unfold flatR
  rw [List.take_succ_eq_append_getElem hi, List.flatMap_append]
  simp
theorem flat_le (l : List Rc) (i : Nat) : (flatR (l.take i)).length ≤ (flatR l).length := by
  have e : flatR l = flatR (l.take i) ++ flatR (l.drop i) := by
    unfold flatR
    rw [← List.flatMap_append, List.take_append_drop]
  rw [e, List.length_append]
  omega
theorem one_pts (L : List Pt) : ∀ u ∈ ptRow L, u.oneCell' = true := by
  intro u hu
  obtain ⟨p, -, hp⟩ := List.mem_flatMap.1 hu
  simp only [ptCells, List.mem_cons, List.not_mem_nil, or_false] at hp
  rcases hp with rfl | rfl <;> rfl
theorem src_pts {w : World} {B : Nat} {a : Addr} {L : List Pt} (h : RdV w B (some a) (ptRow L)) {V : World} (hb : Below B w V) : ∀ j u, (ptRow L)[j]? = some u → V.cell? (a.add j) = some u := by
  intro j u hu
  obtain ⟨h1, rfl⟩ := List.getElem?_eq_some_iff.1 hu
  obtain ⟨b, o, e, hb2, hc⟩ := h (by omega)
  cases e
  rw [addr_add]
  exact (hb.cell (p := ⟨b, o + j, none⟩) hb2).trans (hc j h1)

set_option maxRecDepth 10000 in
set_option maxHeartbeats 3200000 in
theorem slices_Concat (Rs : List Rc) (B : Option Addr) (d : Nat) (w : World) (hB : RdV w w.heap.size B (rcCells Rs)) (hR : ∀ x ∈ Rs, RdV w w.heap.size (some x.A) (ptRow x.pts)) (hl : Rs.length ≤ 1048576) (hs : (flatR Rs).length ≤ 1073741824) :
    Calls Try.prog 40 #[.slice B Rs.length d] w fun e w' => ∃ v, e = .returned v ∧ w'.ownsRow w.heap.size 36 2 v (flatR Rs).length (ptRow (flatR Rs)) ∧ Below w.heap.size w w' := by
  obtain ⟨i0, hi0, hz0, hz1, hz2⟩ := info_parts info_pt
  obtain ⟨n, hn⟩ : ∃ n, Rs.length = n := ⟨_, rfl⟩
  have HN := Lib.hid hn
  have HB := Lib.hid hB
  have HR := Lib.hid hR
  have HLE := Lib.hid (flat_le Rs)
  have HALL := Lib.hid (show flatR (Rs.take n) = flatR Rs from by rw [← hn, List.take_length])
  rw [hn] at hl ⊢
  obtain ⟨S, hS⟩ : ∃ S, (flatR Rs).length = S := ⟨_, rfl⟩
  have HS := Lib.hid hS
  rw [hS] at hs HLE
  have HG := Lib.hid (fun V => slices_GrowNil S V hs)
  clear hn hB hR hS
  go_enter Try.func40, Try.ntmps40
  go_wp2_with fail
  go_loopg [3, 11] n (fun gh sv it wr => ∃ i : Nat, it = .int .i64 (i : Int) ∧ sv = .int .i64 ((flatR (Rs.take i)).length : Int) ∧ gh + i = n ∧ wr = w)
  case atStart => exact ⟨0, rfl, rfl, by omega, rfl⟩
  case round =>
    obtain ⟨i, rfl, rfl, hg, rfl⟩ := hrel
    have hwi : IntKind.i64.wrap ((i : Int) + 1) = (i : Int) + 1 := IntWalk.i64_in _ (by omega)
    by_cases hlt : i < n
    · have hlt' : i < Rs.length := by rw [HN.out]; exact hlt
      obtain ⟨g, o, rfl, hgl, e0⟩ := HB.out.rc (i := i) hlt'
      have hil : (i : Int) < (n : Int) := by omega
      have hst : ((flatR (Rs.take (i + 1))).length : Int) = ((flatR (Rs.take i)).length : Int) + (Rs[i].pts.length : Int) := by rw [flat_take hlt', List.length_append, Int.natCast_add]
      have hb := HLE.out (i + 1)
      generalize Rs[i] = x at e0 hst
      obtain ⟨T1, hT1⟩ : ∃ t, (flatR (Rs.take (i + 1))).length = t := ⟨_, rfl⟩
      rw [hT1] at hst hb
      generalize (flatR (Rs.take i)).length = T0 at hst ⊢
      have hw : IntKind.i64.wrap ((T0 : Int) + (x.pts.length : Int)) = (T1 : Int) := by rw [← hst]; exact IntWalk.i64_in _ (by omega)
      have hT0 : ¬ (T1 : Int) < 0 := by omega
      have HT1 := Lib.hid hT1
      have HG1 := Lib.hid hg
      clear hst hT1 hlt' hg
      go_wp2_with fail
      go_roundg (n - (i + 1))
      case measure => have := HG1.out; omega
      case rel => exact ⟨i + 1, by simp, by rw [HT1.out], by have := HG1.out; omega, rfl⟩
    · obtain rfl : i = n := by omega
      rw [HALL.out, HS.out]
      clear hg hwi hlt
      obtain ⟨wz, hwz⟩ : ∃ x, x = wr := ⟨_, rfl⟩
      subst hwz
      go_wp2_with (go_at_call 48; (with_reducible refine Calls.mono (HG.out _) ?_); rintro e w1 ⟨v, rfl, hown, b1⟩; (have HO := Lib.hid (And.intro hown b1)); clear hown b1)
      go_loopg [6, 27] i (fun gh vv it wr2 => ∃ j : Nat, it = .int .i64 (j : Int) ∧ gh + j = i ∧ wr2.ownsRow wz.heap.size 36 2 vv (flatR (Rs.take j)).length (ptRow (flatR (Rs.take j))) ∧ Below wz.heap.size wz wr2)
      case atStart => exact ⟨0, rfl, by omega, HO.out.1, HO.out.2⟩
      case round =>
        obtain ⟨j, rfl, hg, hown, hB⟩ := hrel
        have hwj : IntKind.i64.wrap ((j : Int) + 1) = (j : Int) + 1 := IntWalk.i64_in _ (by omega)
        have HGJ := Lib.hid hg
        by_cases hlt : j < i
        · have hlt' : j < Rs.length := by rw [HN.out]; exact hlt
          obtain ⟨g, o, rfl, hgl, e0⟩ := (HB.out.below hB).rc (i := j) hlt'
          have hjl : (j : Int) < (i : Int) := by omega
          have hb := HLE.out (j + 1)
          have hst := flat_take hlt'
          have hsrc := src_pts (HR.out _ (List.getElem_mem hlt')) hB
          rw [hst, List.length_append] at hb
          have HST := Lib.hid hst
          generalize Rs[j] = x at e0 hb hsrc HST
          obtain ⟨a, cx, xs⟩ := x
          dsimp only at e0 hb hsrc HST
          have HSR := Lib.hid hsrc
          obtain ⟨xl, hxl⟩ : ∃ k, xs.length = k := ⟨_, rfl⟩
          have HXL := Lib.hid hxl
          rw [hxl] at e0 hb
          have HOB := Lib.hid (And.intro hown hB)
          generalize flatR (Rs.take j) = F at HOB HST hb
          clear hown hB hst hsrc hlt' hg hxl
          go_wp2_with (at_builtin; refine wpList_append_own _ rfl _ _ 22 rfl wz.heap.size 36 i0 (.agg #[.int .i64 0, .int .i64 0]) 2 16 Try.underlying22 hi0 hz0 hz1 hz2 rfl (by decide) _ F.length _ rfl HOB.out.1 a xl cx (ptRow xs) rfl (by rw [ptRow_length, HXL.out]) HSR.out (one_pts xs) (by simp [maxLen]; omega) (by omega) HOB.out.2.size ?_; intro v' w3 hown' hgrow hiff; clear hiff)
          have hB3 := below_grow2 HOB.out.2 HOB.out.1 HOB.out.2.size hgrow
          have HF := Lib.hid (show w3.ownsRow wz.heap.size 36 2 v' (flatR (Rs.take (j + 1))).length (ptRow (flatR (Rs.take (j + 1)))) ∧ Below wz.heap.size wz w3 from ⟨by rw [HST.out, List.length_append, ptRow_append, HXL.out]; exact hown', hB3⟩)
          clear hown' hgrow hB3
          go_wp2_with fail
          go_roundg (i - (j + 1))
          case measure => have := HGJ.out; omega
          case rel => exact ⟨j + 1, by simp, by have := HGJ.out; omega, HF.out.1, HF.out.2⟩
        · obtain rfl : j = i := by omega
          rw [HALL.out] at hown
          have HF := Lib.hid (And.intro hown hB)
          clear hown hB hg
          go_wp2_with fail
          go_ret
          exact ⟨_, rfl, HF.out.1, HF.out.2⟩
end Go.Proofs.Ytkebffkekinblaa
/- Neighbours that are the same, left out: the program's own slices.Compact at points. -/

namespace Go.Proofs.Ytkebffkekinblaa
open Go.RowKit Num

theorem once_same {L : List Pt} {i : Nat} (h0 : 0 < i) (h : L.getD i pt0 = L.getD (i - 1) pt0) : onceTo L (i + 1) = onceTo L i := by
  rw [once_next, if_neg ?_]
  rintro (k | k)
  · omega
  · exact k h
theorem once_diff {L : List Pt} {i : Nat} (h : L.getD i pt0 ≠ L.getD (i - 1) pt0) : onceTo L (i + 1) = onceTo L i ++ [L.getD i pt0] := by
  rw [once_next, if_pos (.inr h)]
/-- the row on the way: i points are done -/
def compR (L : List Pt) (i : Nat) : List Pt := onceTo L i ++ L.drop (onceTo L i).length
theorem compR_length {L : List Pt} {i : Nat} (h : i ≤ L.length) : (compR L i).length = L.length := by
  have := onceTo_le L i
  unfold compR
  rw [List.length_append, List.length_drop]
  omega
theorem compR_at {L : List Pt} {i j : Nat} (h1 : (onceTo L i).length ≤ j) (h2 : j < (compR L i).length) (h3 : j < L.length) : (compR L i)[j] = L.getD j pt0 := by
  have e : (compR L i)[j]? = some (L.getD j pt0) := by
    unfold compR
    rw [List.getElem?_append_right h1, List.getElem?_drop, show (onceTo L i).length + (j - (onceTo L i).length) = j by omega, getD_lt h3, List.getElem?_eq_getElem h3]
  rw [List.getElem?_eq_getElem h2] at e
  exact Option.some.inj e
theorem compR_step {L : List Pt} {i : Nat} (hk : (onceTo L i).length < L.length) (h : L.getD i pt0 ≠ L.getD (i - 1) pt0) : (compR L i).set (onceTo L i).length (L.getD i pt0) = compR L (i + 1) := by
  unfold compR
  rw [once_diff h, List.set_append_right _ _ (Nat.le_refl _), Nat.sub_self, List.length_append, List.drop_eq_getElem_cons hk, List.set_cons_zero]
  simp
theorem compR_stay {L : List Pt} {i : Nat} (h0 : 0 < i) (h : L.getD i pt0 = L.getD (i - 1) pt0) : compR L (i + 1) = compR L i := by
  unfold compR
  rw [once_same h0 h]
theorem compR_first {L : List Pt} {k : Nat} (h0 : 0 < k) (h : onceTo L k = L.take k) (hk : k < L.length) (he : L.getD k pt0 = L.getD (k - 1) pt0) : compR L (k + 1) = L ∧ (onceTo L (k + 1)).length = k := by
  have e : (L.take k).length = k := by rw [List.length_take]; omega
  unfold compR
  rw [once_same h0 he, h, e]
  exact ⟨List.take_append_drop _ _, rfl⟩
theorem take_next {L : List Pt} {k : Nat} (hk : k < L.length) (h : onceTo L k = L.take k) (hd : L.getD k pt0 ≠ L.getD (k - 1) pt0) : onceTo L (k + 1) = L.take (k + 1) := by
  rw [once_diff hd, h, List.take_succ_eq_append_getElem hk, getD_lt hk]
theorem take_one {L : List Pt} (h : 0 < L.length) : onceTo L 1 = L.take 1 := by
  show (if 0 = 0 ∨ L.getD 0 pt0 ≠ L.getD (0 - 1) pt0 then onceTo L 0 ++ [L.getD 0 pt0] else onceTo L 0) = _
  rw [if_pos (.inl rfl), List.take_succ_eq_append_getElem h, getD_lt h]
  rfl
theorem once_short {L : List Pt} (h : L.length < 2) : onceM L = L := by
  match L, h with
  | [], _ => rfl
  | [a], _ => rfl
theorem flat_takeK : ∀ (l : List Pt) (k : Nat), (ptRow l).take (k * 2) = ptRow (l.take k)
  | [], k => by simp [ptRow]
  | p :: l, 0 => by simp [ptRow]
  | p :: l, k + 1 => by
    have h := flat_takeK l k
    rw [show (k + 1) * 2 = k * 2 + 1 + 1 by omega]
    show (.int .i64 p.x :: .int .i64 p.y :: ptRow l).take (k * 2 + 1 + 1) = _
    rw [List.take_succ_cons, List.take_succ_cons, h]
    rfl
/-- clear, at the end of a row of points -/
theorem run_clear_pts {w : World} {g : Nat} {l : List Pt} {R : List Value} (h : Lies w g l R) {k : Nat} (hk : k < l.length) (D c : Nat) (hD : l.length - k = D) :
    ∃ W' R', (∀ ty, (Builtin.clear_ #[22] ty #[.slice (some ⟨g, k * 2, none⟩) D c]).run Try.prog w = .ok (.tuple #[]) W') ∧ Lies W' g (l.take k) R' ∧ R'.length + 2 * k = R.length + 2 * l.length ∧ Below g w W' := by
  obtain ⟨i0, hi0, hz0, hz1, hz2⟩ := info_parts info_pt
  have hl := ptRow_length l
  have hzv : ∀ w, (zeroValue 36).run Try.prog w = .ok (.agg #[.int .i64 0, .int .i64 0]) w := fun w => by simp [zeroValue, typeInfo, hi0, hz0]
  have hzl : (Builtin.zeroCells (Value.agg #[.int .i64 0, .int .i64 0]).cells D).toList.length = D * 2 := by simp [Builtin.zeroCells, Value.cells]
  have hone : ∀ v ∈ (Builtin.zeroCells (Value.agg #[.int .i64 0, .int .i64 0]).cells D).toList, v.oneCell' = true := by
    intro v hv
    simp only [Builtin.zeroCells, Array.toList_map, List.mem_map] at hv
    obtain ⟨j, -, rfl⟩ := hv
    have hs : (Value.agg #[.int .i64 0, .int .i64 0]).cells.size = 2 := rfl
    have hj : j % 2 < 2 := Nat.mod_lt _ (by omega)
    rw [hs]
    generalize j % 2 = q at hj
    match q, hj with
    | 0, _ => rfl
    | 1, _ => rfl
  have hst := run_storeCells_at Try.prog g (k * 2) 36 (Builtin.zeroCells (Value.agg #[.int .i64 0, .int .i64 0]).cells D).toList 0 (ptRow l ++ R).toArray w h (by simp only [List.size_toArray, List.length_append, hzl]; omega) hone
  have htk : (ptRow l ++ R).take (k * 2) = ptRow (l.take k) := by
    rw [List.take_append_of_le_length (by omega)]
    exact flat_takeK l k
  obtain ⟨Zs, hZs⟩ : ∃ z, (Builtin.zeroCells (Value.agg #[.int .i64 0, .int .i64 0]).cells D).toList = z := ⟨_, rfl⟩
  rw [hZs] at hst
  have hlist : ((ptRow l ++ R).toArray.toList.take (k * 2 + 0) ++ Zs ++ (ptRow l ++ R).toArray.toList.drop (k * 2 + 0 + Zs.length)) = ptRow (l.take k) ++ (Zs ++ (ptRow l ++ R).drop (k * 2 + Zs.length)) := by
    rw [Nat.add_zero, List.append_assoc]
    show (ptRow l ++ R).take (k * 2) ++ _ = _
    rw [htk]
  rw [hlist] at hst
  refine ⟨_, Zs ++ (ptRow l ++ R).drop (k * 2 + Zs.length), fun ty => ?_, setRow_heap w g _ _ _ _ h, ?_, below_setRow (Below.refl _ _) (Nat.le_refl _) _⟩
  · obtain ⟨m, rfl⟩ : ∃ m, D = m + 1 := ⟨D - 1, by omega⟩
    simp [Builtin.clear_, run_underlying Try.underlying22, hzv, hZs, hst]
  · have hz3 : Zs.length = D * 2 := by rw [← hZs]; exact hzl
    rw [List.length_append, List.length_drop, List.length_append, hz3]
    omega

/-- what Compact answers -/
def Compd (L : List Pt) (g : Nat) (R : List Value) (c : Nat) (w : World) (e : Ending) (w' : World) : Prop :=
  (∃ R', e = .returned (.slice (some ⟨g, 0, none⟩) (onceM L).length c) ∧ Lies w' g (onceM L) R' ∧ R'.length + 2 * (onceM L).length = R.length + 2 * L.length) ∧ Below g w w'
theorem ne_two {x0 y0 x1 y1 : Int} (h : ¬ (x0 = x1 ∧ y0 = y1)) : ¬ x0 = x1 ∨ (x0 = x1 ∧ ¬ y0 = y1) := by
  by_cases h1 : x0 = x1
  · exact .inr ⟨h1, fun h2 => h ⟨h1, h2⟩⟩
  · exact .inl h1

set_option maxRecDepth 10000 in
set_option maxHeartbeats 6400000 in
theorem slices_Compact (L : List Pt) (g : Nat) (R : List Value) (c : Nat) (w : World) (hL : Lies w g L R) (hl : L.length ≤ 1073741824) (hc : L.length ≤ c) :
    Calls Try.prog 39 #[.slice (some ⟨g, 0, none⟩) L.length c] w (Compd L g R c w) := by
  obtain ⟨n, hn⟩ : ∃ n, L.length = n := ⟨_, rfl⟩
  have HN := Lib.hid hn
  have HL := Lib.hid hL
  by_cases h2 : L.length < 2
  · unfold Compd
    rw [once_short h2]
    rw [hn] at h2 ⊢
    have h2' : (n : Int) < 2 := by omega
    clear hn hL
    go_enter Try.func39, Try.ntmps39
    go_wp2_with fail
    go_ret
    exact ⟨⟨R, rfl, HL.out, rfl⟩, Below.refl _ _⟩
  · have h1 := take_one (L := L) (by omega)
    have HALL := Lib.hid (show ∀ k, n ≤ k → onceTo L n = L.take n → onceM L = L from fun k _ h => by
      unfold onceM
      rw [hn, h, ← hn, List.take_length])
    unfold Compd
    obtain ⟨M, hM⟩ : ∃ M, onceM L = M := ⟨_, rfl⟩
    rw [hM] at HALL ⊢
    have HM := Lib.hid (show M = onceTo L n from by rw [← hM]; unfold onceM; rw [hn])
    rw [hn] at hl hc h2 ⊢
    have h2' : ¬ (n : Int) < 2 := by omega
    have H1 := Lib.hid h1
    clear hn hL h1 hM
    go_enter Try.func39, Try.ntmps39
    go_wp2_with fail
    go_loopg [3] n (fun gh kv wr => ∃ j : Nat, kv = .int .i64 ((j : Int) + 1) ∧ gh + j = n ∧ j + 1 ≤ n ∧ onceTo L (j + 1) = L.take (j + 1) ∧ Lies wr g L R ∧ Below g w wr)
    case atStart => exact ⟨0, by simp, by omega, by omega, H1.out, HL.out, Below.refl _ _⟩
    case round =>
      obtain ⟨j, rfl, hg, hjn, hon, hli, hB⟩ := hrel
      have hwi : IntKind.i64.wrap ((j : Int) + 1 + 1) = (j : Int) + 1 + 1 := IntWalk.i64_in _ (by omega)
      have HG := Lib.hid hg
      by_cases hlt : j + 1 < n
      · have hlt' : j + 1 < L.length := by rw [HN.out]; exact hlt
        obtain ⟨⟨e0, e1⟩, -⟩ := hli.pt (i := j) (by omega)
        obtain ⟨⟨e2, e3⟩, -⟩ := hli.pt (i := j + 1) hlt'
        rw [← getD_lt (show j < L.length by omega)] at e0 e1
        rw [← getD_lt hlt'] at e2 e3
        have hfs := fun he => compR_first (L := L) (k := j + 1) (by omega) hon hlt' he
        have hnx := fun he => take_next (L := L) (k := j + 1) hlt' hon he
        rw [Nat.add_sub_cancel] at hfs hnx
        have hw1 : IntKind.i64.wrap ((j : Int) + 1 - 1) = (j : Int) := by rw [Int.add_sub_cancel]; exact IntWalk.i64_in _ (by omega)
        have hw2 : IntKind.i64.wrap (j : Int) = (j : Int) := IntWalk.i64_in _ (by omega)
        have j0 : (j : Int) + 1 < (n : Int) := by omega
        have j2 : (j : Int) < (n : Int) := by omega
        have j3 : j < n := by omega
        have j1 : 0 ≤ (j : Int) + 1 ∧ (j : Int) + 1 < (n : Int) := by omega
        have t1 : ((j : Int) + 1).toNat = j + 1 := by omega
        obtain ⟨p0, hp0⟩ : ∃ p, L.getD j pt0 = p := ⟨_, rfl⟩
        obtain ⟨p1, hp1⟩ : ∃ p, L.getD (j + 1) pt0 = p := ⟨_, rfl⟩
        rw [hp0] at e0 e1 hfs hnx
        rw [hp1] at e2 e3 hfs hnx
        obtain ⟨x0, y0⟩ := p0
        obtain ⟨x1, y1⟩ := p1
        dsimp only at e0 e1 e2 e3
        have HFS := Lib.hid hfs
        have HNX := Lib.hid hnx
        have HO := Lib.hid (And.intro hli hB)
        clear hg hon hli hB hfs hnx hlt' hp0 hp1
        by_cases hz : x1 = x0 ∧ y1 = y0
        · obtain ⟨rfl, rfl⟩ := hz
          have HS := Lib.hid (HFS.out rfl)
          clear HFS HNX
          have hcn : ¬ c = j + 1 := by omega
          have b1 : (j : Int) + 1 ≤ (n : Int) := by omega
          have b2 : (n : Int) ≤ (c : Int) := by omega
          obtain ⟨D, hD⟩ : ∃ D, n - (j + 1) = D := ⟨_, rfl⟩
          have hDn : j + 1 + D = n := by omega
          have HDN := Lib.hid hDn
          go_wp2_with fail
          go_quiet (fail)
          have HB2 := Lib.hid (show Lies (wr.drewN nq) g L R ∧ Below g w (wr.drewN nq) from ⟨HO.out.1, below_figE HO.out.2 nq⟩)
          go_wp2_with fail
          clear e0 e1 e2 e3
          go_loopg [3, 5] D (fun gh kv k2v wr2 => ∃ a : Nat, k2v = .int .i64 ((a : Int) + 1) ∧ gh + a = D ∧ a + 1 ≤ D ∧ kv = .int .i64 ((onceTo L (j + a + 2)).length : Int) ∧ (onceTo L (j + a + 2)).length + 1 ≤ j + a + 2 ∧ Lies wr2 g (compR L (j + a + 2)) R ∧ Below g w wr2)
          case atStart => exact ⟨0, by simp, by omega, by have := HDN.out; omega, by have h := HS.out.2; simp [h], by have h := HS.out.2; simp [h], by have h := HS.out.1; simp [h]; exact HB2.out.1, HB2.out.2⟩
          case round =>
            obtain ⟨a, rfl, hg2, haD, rfl, hK1, hli, hB⟩ := hrel
            have hwa : IntKind.i64.wrap ((a : Int) + 1 + 1) = (a : Int) + 1 + 1 := IntWalk.i64_in _ (by omega)
            have HG2 := Lib.hid hg2
            have hDN := HDN.out
            by_cases hlt2 : a + 1 < D
            · have hi : j + a + 2 < L.length := by rw [HN.out]; omega
              have hcl := compR_length (L := L) (i := j + a + 2) (by omega)
              obtain ⟨⟨e0, e1⟩, -⟩ := hli.pt (i := j + a + 1) (by omega)
              obtain ⟨⟨e2, e3⟩, -⟩ := hli.pt (i := j + a + 2) (by omega)
              rw [compR_at (by omega) _ (by omega)] at e0 e1
              rw [compR_at (by omega) _ hi] at e2 e3
              have hsame := fun he => once_same (L := L) (i := j + a + 2) (by omega) he
              have hstay := fun he => compR_stay (L := L) (i := j + a + 2) (by omega) he
              have hdiff := fun he => once_diff (L := L) (i := j + a + 2) he
              have hstep := fun he => compR_step (L := L) (i := j + a + 2) (by omega) he
              have hset := fun (V : World) (h : Lies V g (compR L (j + a + 2)) R) => h.set (i := (onceTo L (j + a + 2)).length) (by omega) (L.getD (j + a + 2) pt0)
              rw [show j + a + 2 - 1 = j + a + 1 by omega] at hsame hstay hdiff hstep
              obtain ⟨p0, hp0⟩ : ∃ p, L.getD (j + a + 1) pt0 = p := ⟨_, rfl⟩
              obtain ⟨p1, hp1⟩ : ∃ p, L.getD (j + a + 2) pt0 = p := ⟨_, rfl⟩
              rw [hp0] at e0 e1 hsame hstay hdiff hstep
              rw [hp1] at e2 e3 hsame hstay hdiff hstep
              simp only [hp1] at hset
              obtain ⟨x0, y0⟩ := p0
              obtain ⟨x1, y1⟩ := p1
              dsimp only at e0 e1 e2 e3 hset
              rw [show (j + a + 1) * 2 = (j + 1) * 2 + a * 2 by omega] at e0 e1
              rw [show (j + a + 2) * 2 = (j + 1) * 2 + (a + 1) * 2 by omega] at e2 e3
              obtain ⟨K, hK⟩ : ∃ k, (onceTo L (j + a + 2)).length = k := ⟨_, rfl⟩
              rw [hK] at hK1 hstep ⊢
              simp only [hK] at hset
              obtain ⟨⟨e4, e5⟩, e6, e7⟩ := hli.pt (i := K) (by omega)
              generalize (compR L (j + a + 2))[K] = zz at e4 e5
              have HK := Lib.hid hK
              have HSA := Lib.hid (And.intro hsame hstay)
              have HDI := Lib.hid (And.intro hdiff hstep)
              have HSET := Lib.hid hset
              have HX := Lib.hid (And.intro hli hB)
              have v1 : IntKind.i64.wrap ((a : Int) + 1 - 1) = (a : Int) := by rw [Int.add_sub_cancel]; exact IntWalk.i64_in _ (by omega)
              have v2 : IntKind.i64.wrap (a : Int) = (a : Int) := IntWalk.i64_in _ (by omega)
              have v3 : IntKind.i64.wrap ((K : Int) + 1) = (K : Int) + 1 := IntWalk.i64_in _ (by omega)
              have c0 : (a : Int) + 1 < (D : Int) := by omega
              have c2 : (a : Int) < (D : Int) := by omega
              have c3 : a < D := by omega
              have c1 : 0 ≤ (a : Int) + 1 ∧ (a : Int) + 1 < (D : Int) := by omega
              have t2 : ((a : Int) + 1).toNat = a + 1 := by omega
              have c4 : (K : Int) < (n : Int) := by omega
              have c5 : K < n := by omega
              clear hg2 hsame hstay hdiff hstep hset hp0 hp1 hK hli hB hi hcl hDN
              by_cases hz : x1 = x0 ∧ y1 = y0
              · obtain ⟨rfl, rfl⟩ := hz
                have HE := Lib.hid (And.intro (HSA.out.1 rfl) (HSA.out.2 rfl))
                clear HSA HDI HSET
                go_wp2_with fail
                go_quiet (fail)
                have HQ := Lib.hid (show Lies (wr.drewN nq) g (compR L (j + a + 2)) R ∧ Below g w (wr.drewN nq) from ⟨HX.out.1, below_figE HX.out.2 nq⟩)
                go_wp2_with fail
                go_roundg (D - (a + 1))
                case measure => have := HG2.out; omega
                case rel => exact ⟨a + 1, by simp, by have := HG2.out; omega, by omega, by rw [← Nat.add_assoc, show j + a + 1 + 2 = j + a + 2 + 1 by omega, HE.out.1, HK.out], by rw [← Nat.add_assoc, show j + a + 1 + 2 = j + a + 2 + 1 by omega, HE.out.1, HK.out]; omega, by rw [← Nat.add_assoc, show j + a + 1 + 2 = j + a + 2 + 1 by omega, HE.out.2]; exact HQ.out.1, HQ.out.2⟩
              · have HE := Lib.hid (show onceTo L (j + a + 2 + 1) = onceTo L (j + a + 2) ++ [⟨x1, y1⟩] ∧ (compR L (j + a + 2)).set K ⟨x1, y1⟩ = compR L (j + a + 2 + 1) from
                  ⟨HDI.out.1 (fun h => hz ⟨congrArg Pt.x h, congrArg Pt.y h⟩), HDI.out.2 (fun h => hz ⟨congrArg Pt.x h, congrArg Pt.y h⟩)⟩)
                clear HSA HDI
                rcases ne_two hz with h3 | ⟨rfl, h3⟩
                all_goals
                  clear hz
                  go_wp2_with fail
                  go_quiet (fail)
                  obtain ⟨X, hX⟩ : ∃ X, wr.drewN nq = X := ⟨_, rfl⟩
                  have HQ := Lib.hid (show Lies X g (compR L (j + a + 2)) R ∧ Below g w X from by rw [← hX]; exact ⟨HX.out.1, below_figE HX.out.2 nq⟩)
                  have f2 : X.cell? ⟨g, (j + 1) * 2 + (a + 1) * 2, none⟩ = some (.int .i64 x1) := by rw [← hX]; exact e2
                  have f3 : X.cell? ⟨g, (j + 1) * 2 + (a + 1) * 2 + 1, none⟩ = some (.int .i64 y1) := by rw [← hX]; exact e3
                  have f4 : X.cell? ⟨g, K * 2, none⟩ = wr.cell? ⟨g, K * 2, none⟩ := by rw [← hX]; rfl
                  have f5 : X.cell? ⟨g, K * 2 + 1, none⟩ = wr.cell? ⟨g, K * 2 + 1, none⟩ := by rw [← hX]; rfl
                  have f6 : X.frozen? ⟨g, K * 2, none⟩ = false := by rw [← hX]; exact e6
                  have f7 : X.frozen? ⟨g, K * 2 + 1, none⟩ = false := by rw [← hX]; exact e7
                  rw [e4] at f4
                  rw [e5] at f5
                  rw [hX]
                  obtain ⟨U, hU, lU, bU⟩ := HSET.out X HQ.out.1
                  rw [HE.out.2] at lU
                  have HF := Lib.hid (And.intro lU (HQ.out.2.trans (bU g (Nat.le_refl _))))
                  have HU := Lib.hid hU
                  clear hX e2 e3 e4 e5 e6 e7 e0 e1 hU lU bU
                  go_wp2_with fail
                  try rw [HU.out]
                  go_roundg (D - (a + 1))
                  case measure => have := HG2.out; omega
                  case rel => exact ⟨a + 1, by simp, by have := HG2.out; omega, by omega, by rw [← Nat.add_assoc, show j + a + 1 + 2 = j + a + 2 + 1 by omega, HE.out.1, List.length_append, HK.out]; rfl, by rw [← Nat.add_assoc, show j + a + 1 + 2 = j + a + 2 + 1 by omega, HE.out.1, List.length_append, HK.out]; simp; omega, by rw [← Nat.add_assoc, show j + a + 1 + 2 = j + a + 2 + 1 by omega]; exact HF.out.1, HF.out.2⟩
            · obtain rfl : D = a + 1 := by omega
              have hni : j + a + 2 = n := by omega
              rw [hni] at hK1 hli ⊢
              have hcl := compR_length (L := L) (i := n) (by rw [HN.out]; exact Nat.le_refl _)
              rw [HN.out] at hcl
              obtain ⟨K, hK⟩ : ∃ k, (onceTo L n).length = k := ⟨_, rfl⟩
              rw [hK] at hK1 ⊢
              have htk : (compR L n).take K = onceTo L n := by
                unfold compR
                rw [← hK]
                exact List.take_left
              obtain ⟨D2, hD2⟩ : ∃ d, n - K = d := ⟨_, rfl⟩
              obtain ⟨W3, R3, hclr, l3, r3, b3⟩ := run_clear_pts hli (k := K) (by omega) D2 (c - K) (by rw [hcl]; exact hD2)
              rw [htk, ← HM.out] at l3
              rw [hcl] at r3
              have HF := Lib.hid (And.intro l3 (And.intro r3 (hB.trans b3)))
              have HKM := Lib.hid (show M.length = K from by rw [HM.out]; exact hK)
              have d1 : (K : Int) ≤ (n : Int) := by omega
              have d2 : (K : Int) ≤ (c : Int) := by omega
              have d3 : ¬ c = K := by omega
              clear hg2 hK htk hli hB l3 r3 b3 hcl hni hDN
              go_wp2_with fail
              go_ret
              rw [HKM.out]
              exact ⟨⟨R3, rfl, HF.out.1, HF.out.2.1⟩, HF.out.2.2⟩
        · have HE := Lib.hid (HNX.out (fun h => hz ⟨congrArg Pt.x h, congrArg Pt.y h⟩))
          clear HFS HNX
          rcases ne_two hz with h3 | ⟨rfl, h3⟩
          all_goals
            clear hz
            go_wp2_with fail
            go_quiet (fail)
            go_wp2_with fail
            go_roundg (n - (j + 1))
            case measure => have := HG.out; omega
            case rel => exact ⟨j + 1, by simp, by have := HG.out; omega, by omega, HE.out, HO.out.1, below_figE HO.out.2 nq⟩
      · obtain rfl : n = j + 1 := by omega
        have HE := Lib.hid (HALL.out (j + 1) (Nat.le_refl _) hon)
        have HF := Lib.hid (And.intro hli hB)
        have HLN := Lib.hid (show M.length = j + 1 from by rw [HE.out]; exact HN.out)
        clear hg hon hli hB
        go_wp2_with fail
        go_ret
        rw [HLN.out]
        exact ⟨⟨R, rfl, by rw [HE.out]; exact HF.out.1, rfl⟩, HF.out.2⟩
end Go.Proofs.Ytkebffkekinblaa
/- Lines in pieces, the program's own: piece. -/

namespace Go.Proofs.Ytkebffkekinblaa
open Go.RowKit Num

theorem Lies.ofOwnC {w : World} {base n : Nat} {v : Value} {l : List Pt} (h : w.ownsRow base 36 2 v n (ptRow l)) (hn : 0 < n) : ∃ g cap R, v = .slice (some ⟨g, 0, none⟩) n cap ∧ n ≤ cap ∧ cap ≤ maxLen ∧ base ≤ g ∧ Lies w g l R ∧ R.length + 2 * l.length = cap * 2 := by
  have hx := ptRow_length l
  rcases h.2 with ⟨rfl, rfl⟩ | ⟨g, cap, cur, rfl, hb, hg, hnc, hcm, hcs, htake⟩
  · omega
  · have hl : (cur.toList.take (n * 2)).length = 2 * l.length := by rw [htake, hx]; omega
    rw [List.length_take] at hl
    have hcs2 : cur.toList.length = cap * 2 := by rw [Array.length_toList]; exact hcs
    refine ⟨g, cap, cur.toList.drop (n * 2), rfl, hnc, hcm, hb, ?_, ?_⟩
    · unfold Lies Box
      rw [← htake, List.take_append_drop]
      exact hg
    · rw [List.length_drop, hcs2]
      omega
/-- a row that lies, owned again -/
theorem Lies.own {w : World} {base g cap : Nat} {l : List Pt} {R : List Value} (h : Lies w g l R) (hb : base ≤ g) (hc : cap ≤ maxLen) (hs : R.length + 2 * l.length = cap * 2) : w.ownsRow base 36 2 (.slice (some ⟨g, 0, none⟩) l.length cap) l.length (ptRow l) := by
  have hx := ptRow_length l
  refine ⟨by omega, .inr ⟨g, cap, (ptRow l ++ R).toArray, rfl, hb, h, by omega, hc, ?_, ?_⟩⟩
  · simp only [List.size_toArray, List.length_append]
    omega
  · show (ptRow l ++ R).take (l.length * 2) = ptRow l
    rw [List.take_append_of_le_length (by omega), ← hx, List.take_length]
theorem flat_dropK : ∀ (l : List Pt) (k : Nat), (ptRow l).drop (k * 2) = ptRow (l.drop k)
  | [], k => by simp [ptRow]
  | p :: l, 0 => by simp [ptRow]
  | p :: l, k + 1 => by
    have h := flat_dropK l k
    rw [show (k + 1) * 2 = k * 2 + 1 + 1 by omega]
    show (.int .i64 p.x :: .int .i64 p.y :: ptRow l).drop (k * 2 + 1 + 1) = _
    rw [List.drop_succ_cons, List.drop_succ_cons, h]
    rfl
/-- the points between, as the program's row of them lies -/
theorem RdV.mid {w : World} {B b o : Nat} {p : List Pt} (h : RdV w B (some ⟨b, o, none⟩) (ptRow p)) {f1 f2 : Nat} (h2 : f2 ≤ p.length) : RdV w B (some ⟨b, o + f1 * 2, none⟩) (ptRow ((p.take f2).drop f1)) := fun hx => by
  rw [ptRow_length, List.length_drop, List.length_take] at hx
  have hp := ptRow_length p
  obtain ⟨b', o', e, hb, hc⟩ := h (by omega)
  cases e
  refine ⟨b, o + f1 * 2, rfl, hb, fun j hj => ?_⟩
  rw [ptRow_length, List.length_drop, List.length_take] at hj
  have hcj := hc (f1 * 2 + j) (by omega)
  rw [Nat.add_assoc, hcj]
  congr 1
  have e1 : ptRow ((p.take f2).drop f1) = (ptRow (p.take f2)).drop (f1 * 2) := (flat_dropK (p.take f2) f1).symm
  have e2 : ptRow (p.take f2) = (ptRow p).take (f2 * 2) := (flat_takeK p f2).symm
  simp only [e1, e2, List.getElem_drop, List.getElem_take]

/-- the three rows of a piece, put together -/
theorem concat_gen (V : World) (xa ya xb yb : Int) (g1 g2 g3 b0 o2 n2 c2 : Nat) (M raw : List Pt) (hn : M.length = n2) (hraw : [⟨xa, ya⟩] ++ M ++ [⟨xb, yb⟩] = raw) (hl : M.length ≤ 1048577)
    (k1 : Box V g1 36 [.int .i64 xa, .int .i64 ya]) (k2 : Box V g2 36 [.int .i64 xb, .int .i64 yb]) (k3 : Box V g3 22 [.slice (some ⟨g1, 0, none⟩) 1 1, .slice (some ⟨b0, o2, none⟩) n2 c2, .slice (some ⟨g2, 0, none⟩) 1 1]) (hM : RdV V V.heap.size (some ⟨b0, o2, none⟩) (ptRow M)) :
    Calls Try.prog 40 #[.slice (some ⟨g3, 0, none⟩) 3 3] V fun e w' => ∃ v, e = .returned v ∧ w'.ownsRow V.heap.size 36 2 v raw.length (ptRow raw) ∧ Below V.heap.size V w' := by
  subst hn
  have h := slices_Concat [⟨⟨g1, 0, none⟩, 1, [⟨xa, ya⟩]⟩, ⟨⟨b0, o2, none⟩, c2, M⟩, ⟨⟨g2, 0, none⟩, 1, [⟨xb, yb⟩]⟩] (some ⟨g3, 0, none⟩) 3 V k3.rd (by
    intro x hx
    simp only [List.mem_cons, List.not_mem_nil, or_false] at hx
    rcases hx with rfl | rfl | rfl
    · exact k1.rd
    · exact hM
    · exact k2.rd) (by simp) (by simp [flatR]; omega)
  have e : flatR [⟨⟨g1, 0, none⟩, 1, [⟨xa, ya⟩]⟩, ⟨⟨b0, o2, none⟩, c2, M⟩, ⟨⟨g2, 0, none⟩, 1, [⟨xb, yb⟩]⟩] = raw := by
    rw [← hraw]
    simp [flatR]
  rw [e] at h
  exact h
theorem concat_ab (w W X Y : World) (xa ya xb yb : Int) (g1 g2 g3 b0 o2 n2 c2 : Nat) (M raw : List Pt) (hn : M.length = n2) (hraw : [⟨xa, ya⟩] ++ M ++ [⟨xb, yb⟩] = raw) (hl : M.length ≤ 1048577) (hM : RdV w w.heap.size (some ⟨b0, o2, none⟩) (ptRow M)) (hw : Below w.heap.size w W) (hY : Below W.heap.size W Y)
    (hb : Below (X.alloc (.cells #[.int .i64 xa, .int .i64 ya] 36)).heap.size (X.alloc (.cells #[.int .i64 xa, .int .i64 ya] 36)) Y) (h1 : g1 = X.heap.size) (h2 : g2 = Y.heap.size) (h3 : g3 = Y.heap.size + 1) :
    Calls Try.prog 40 #[.slice (some ⟨g3, 0, none⟩) 3 3] ((Y.alloc (.cells #[.int .i64 xb, .int .i64 yb] 36)).alloc (.cells #[.slice (some ⟨g1, 0, none⟩) 1 1, .slice (some ⟨b0, o2, none⟩) n2 c2, .slice (some ⟨g2, 0, none⟩) 1 1] 22)) fun e w' => ∃ v, e = .returned v ∧ w'.ownsRow W.heap.size 36 2 v raw.length (ptRow raw) ∧ Below W.heap.size W w' := by
  subst h1 h2 h3
  obtain ⟨V, hV⟩ : ∃ V, (Y.alloc (.cells #[.int .i64 xb, .int .i64 yb] 36)).alloc (.cells #[.slice (some ⟨X.heap.size, 0, none⟩) 1 1, .slice (some ⟨b0, o2, none⟩) n2 c2, .slice (some ⟨Y.heap.size, 0, none⟩) 1 1] 22) = V := ⟨_, rfl⟩
  have k1 : Box V X.heap.size 36 [.int .i64 xa, .int .i64 ya] := by rw [← hV]; exact ((fresh2 hb).alloc _).alloc _
  have k2 : Box V Y.heap.size 36 [.int .i64 xb, .int .i64 yb] := by rw [← hV]; exact (Box.new Y _ [.int .i64 xb, .int .i64 yb]).alloc _
  have k3 : Box V (Y.heap.size + 1) 22 [.slice (some ⟨X.heap.size, 0, none⟩) 1 1, .slice (some ⟨b0, o2, none⟩) n2 c2, .slice (some ⟨Y.heap.size, 0, none⟩) 1 1] := by rw [← hV]; exact Box.at_new (Y.alloc (.cells #[.int .i64 xb, .int .i64 yb] 36)) _ [.slice (some ⟨X.heap.size, 0, none⟩) 1 1, .slice (some ⟨b0, o2, none⟩) n2 c2, .slice (some ⟨Y.heap.size, 0, none⟩) 1 1] (by simp)
  have bV : Below W.heap.size W V := by rw [← hV]; exact (hY.alloc hY.size _).alloc (by have := hY.size; simp; omega) _
  rw [hV]
  refine (concat_gen V xa ya xb yb _ _ _ b0 o2 n2 c2 M raw hn hraw hl k1 k2 k3 (hM.on (hw.trans (bV.mono hw.size)))).mono ?_
  rintro e w' ⟨v, rfl, hown, b⟩
  exact ⟨v, rfl, own_mono hown bV.size, bV.trans (b.mono bV.size)⟩
theorem concat_ba (w W X Y : World) (xa ya xb yb : Int) (g1 g2 g3 b0 o2 n2 c2 : Nat) (M raw : List Pt) (hn : M.length = n2) (hraw : [⟨xa, ya⟩] ++ M ++ [⟨xb, yb⟩] = raw) (hl : M.length ≤ 1048577) (hM : RdV w w.heap.size (some ⟨b0, o2, none⟩) (ptRow M)) (hw : Below w.heap.size w W) (hY : Below W.heap.size W Y)
    (hb : Below (X.alloc (.cells #[.int .i64 xb, .int .i64 yb] 36)).heap.size (X.alloc (.cells #[.int .i64 xb, .int .i64 yb] 36)) Y) (h2 : g2 = X.heap.size) (h1 : g1 = Y.heap.size) (h3 : g3 = Y.heap.size + 1) :
    Calls Try.prog 40 #[.slice (some ⟨g3, 0, none⟩) 3 3] ((Y.alloc (.cells #[.int .i64 xa, .int .i64 ya] 36)).alloc (.cells #[.slice (some ⟨g1, 0, none⟩) 1 1, .slice (some ⟨b0, o2, none⟩) n2 c2, .slice (some ⟨g2, 0, none⟩) 1 1] 22)) fun e w' => ∃ v, e = .returned v ∧ w'.ownsRow W.heap.size 36 2 v raw.length (ptRow raw) ∧ Below W.heap.size W w' := by
  subst h1 h2 h3
  obtain ⟨V, hV⟩ : ∃ V, (Y.alloc (.cells #[.int .i64 xa, .int .i64 ya] 36)).alloc (.cells #[.slice (some ⟨Y.heap.size, 0, none⟩) 1 1, .slice (some ⟨b0, o2, none⟩) n2 c2, .slice (some ⟨X.heap.size, 0, none⟩) 1 1] 22) = V := ⟨_, rfl⟩
  have k2 : Box V X.heap.size 36 [.int .i64 xb, .int .i64 yb] := by rw [← hV]; exact ((fresh2 hb).alloc _).alloc _
  have k1 : Box V Y.heap.size 36 [.int .i64 xa, .int .i64 ya] := by rw [← hV]; exact (Box.new Y _ [.int .i64 xa, .int .i64 ya]).alloc _
  have k3 : Box V (Y.heap.size + 1) 22 [.slice (some ⟨Y.heap.size, 0, none⟩) 1 1, .slice (some ⟨b0, o2, none⟩) n2 c2, .slice (some ⟨X.heap.size, 0, none⟩) 1 1] := by rw [← hV]; exact Box.at_new (Y.alloc (.cells #[.int .i64 xa, .int .i64 ya] 36)) _ [.slice (some ⟨Y.heap.size, 0, none⟩) 1 1, .slice (some ⟨b0, o2, none⟩) n2 c2, .slice (some ⟨X.heap.size, 0, none⟩) 1 1] (by simp)
  have bV : Below W.heap.size W V := by rw [← hV]; exact (hY.alloc hY.size _).alloc (by have := hY.size; simp; omega) _
  rw [hV]
  refine (concat_gen V xa ya xb yb _ _ _ b0 o2 n2 c2 M raw hn hraw hl k1 k2 k3 (hM.on (hw.trans (bV.mono hw.size)))).mono ?_
  rintro e w' ⟨v, rfl, hown, b⟩
  exact ⟨v, rfl, own_mono hown bV.size, bV.trans (b.mono bV.size)⟩

set_option maxRecDepth 10000 in
set_option maxHeartbeats 6400000 in
theorem tape_piece (p : List Pt) (q : Option Addr) (k : Nat) (r : Option Addr) (j : Nat) (a b : Int) (w : World) (hq : RdV w w.heap.size q (ptRow p)) (hr : RdV w w.heap.size r (icells (farL p))) (hl : p.length ≤ 1048577) (hf : FitL p) (hp : 0 < p.length) (ha : 0 ≤ a) (hab : a < b) (hb : b ≤ chainTo p (p.length - 1)) (hk : p.length ≤ k) :
    Calls Try.prog 23 #[.agg #[.slice q p.length k, .slice r p.length j], .int .i64 a, .int .i64 b] w fun e w' => (∃ v, e = .returned v ∧ w'.ownsRow w.heap.size 36 2 v (onceM ([tapeAt p a] ++ (p.take (firstF p b)).drop (firstF p (a + 1)) ++ [tapeAt p b])).length (ptRow (onceM ([tapeAt p a] ++ (p.take (firstF p b)).drop (firstF p (a + 1)) ++ [tapeAt p b])))) ∧ Below w.heap.size w w' := by
  obtain ⟨W, hW, kW, bW⟩ := tape_box w (.slice q p.length k) (.slice r p.length j)
  have hq2 := hq.on bW
  have hr2 := hr.on bW
  have HQR := Lib.hid (fun V (h : Below W.heap.size W V) => And.intro (hq2.on h) (hr2.on h))
  have c1 := fun V (h : Below W.heap.size W V) => tape_first p q k r j (a + 1) V (HQR.out V h).2 hl
  have c2 := fun V (h : Below W.heap.size W V) => tape_first p q k r j b V (HQR.out V h).2 hl
  have c3 := fun V (h : Below W.heap.size W V) => tape_atV p q k r j a V (HQR.out V h).1 (HQR.out V h).2 hl hf hp ⟨ha, by omega⟩
  have c4 := fun V (h : Below W.heap.size W V) => tape_atV p q k r j b V (HQR.out V h).1 (HQR.out V h).2 hl hf hp ⟨by omega, hb⟩
  have hf2 := firstF_in hp hb
  have hf12 := firstF_mono p (show a + 1 ≤ b by omega)
  have hcb := chainTo_in p (p.length - 1)
  have hbb : b ≤ 35184405643264 := by omega
  obtain ⟨b0, o0, rfl, hb0, -, -⟩ := hq.ptD (i := 0) hp
  have hmid := hq.mid (f1 := firstF p (a + 1)) (show firstF p b ≤ p.length by omega)
  have hml := List.length_drop (l := p.take (firstF p b)) (i := firstF p (a + 1))
  rw [List.length_take] at hml
  obtain ⟨f1, hF1⟩ : ∃ f, firstF p (a + 1) = f := ⟨_, rfl⟩
  obtain ⟨f2, hF2⟩ : ∃ f, firstF p b = f := ⟨_, rfl⟩
  rw [hF1] at c1 hmid hml hf12 ⊢
  rw [hF2] at c2 hmid hml hf12 hf2 ⊢
  generalize (p.take f2).drop f1 = M at hmid hml ⊢
  obtain ⟨pa, hpa⟩ : ∃ z, tapeAt p a = z := ⟨_, rfl⟩
  obtain ⟨pb, hpb⟩ : ∃ z, tapeAt p b = z := ⟨_, rfl⟩
  rw [hpa, hpb]
  simp only [hpa] at c3
  simp only [hpb] at c4
  obtain ⟨xa, ya⟩ := pa
  obtain ⟨xb, yb⟩ := pb
  unfold ptV at c3 c4
  dsimp only at c3 c4
  obtain ⟨m, hm⟩ : ∃ m, p.length = m := ⟨_, rfl⟩
  rw [hm] at c1 c2 c3 c4 kW hW hk hml hf2 hl hp hcb ⊢
  obtain ⟨⟨g0, g1⟩, -⟩ := Box.pair kW
  have hwa : IntKind.i64.wrap (a + 1) = a + 1 := IntWalk.i64_in _ (by omega)
  have HK := Lib.hid (And.intro kW bW)
  have C1 := Lib.hid c1
  have C2 := Lib.hid c2
  have C3 := Lib.hid c3
  have C4 := Lib.hid c4
  have HMID := Lib.hid hmid
  have HML := Lib.hid (show M.length = f2 - f1 by omega)
  obtain ⟨raw, hraw⟩ : ∃ z, [⟨xa, ya⟩] ++ M ++ [⟨xb, yb⟩] = z := ⟨_, rfl⟩
  rw [hraw]
  have HRAW := Lib.hid hraw
  obtain ⟨N, hN⟩ : ∃ n, raw.length = n := ⟨_, rfl⟩
  have hN2 : N = (f2 - f1) + 2 := by rw [← hN, ← hraw]; simp [HML.out]
  have HCC := Lib.hid (fun X Y g1 g2 g3 c2 (hY : Below W.heap.size W Y) => And.intro (concat_ab w W X Y xa ya xb yb g1 g2 g3 b0 (o0 + f1 * 2) (f2 - f1) c2 M raw HML.out hraw (by omega) hmid bW hY) (concat_ba w W X Y xa ya xb yb g1 g2 g3 b0 (o0 + f1 * 2) (f2 - f1) c2 M raw HML.out hraw (by omega) hmid bW hY))
  have hcp := fun g R c V (h : Lies V g raw R) (hc : raw.length ≤ c) => slices_Compact raw g R c V h (by omega) hc
  unfold Compd at hcp
  rw [hN] at HCC hcp
  have HCP := Lib.hid hcp
  clear hcp
  have HNN := Lib.hid hN
  have HFB := Lib.hid bW
  have hNp : 0 < N := by omega
  clear hN2
  have i1 : (f1 : Int) ≤ (f2 : Int) := by omega
  have i2 : (f2 : Int) ≤ (k : Int) := by omega
  have i3 : ¬ k = f1 := by omega
  have i4 : 0 ≤ (f1 : Int) ∧ (f1 : Int) ≤ (f2 : Int) := by omega
  have HC := Lib.hid (fun V (h : Below W.heap.size W V) => show (V.cell? ⟨w.heap.size, 0, none⟩ = some (.slice (some ⟨b0, o0, none⟩) m k) ∧ V.cell? ⟨w.heap.size, 1, none⟩ = some (.slice r m j)) ∧ Below W.heap.size W V from
    ⟨⟨(h.cell (p := ⟨w.heap.size, 0, none⟩) kW.lt).trans g0, (h.cell (p := ⟨w.heap.size, 1, none⟩) kW.lt).trans g1⟩, h⟩)
  have HP := Lib.hid (HC.out W.drew (Below.refl _ _).drew)
  clear c1 c2 c3 c4 hq hr hq2 hr2 hF1 hF2 kW bW hcb hmid hml hpa hpb hm hf hraw hN
  go_enter Try.func23, Try.ntmps23
  go_wp2_with (rw [hW])
  try rw [hW]
  go_region_held3 (fun w' => (w'.cell? ⟨w.heap.size, 0, none⟩ = some (.slice (some ⟨b0, o0, none⟩) m k) ∧ w'.cell? ⟨w.heap.size, 1, none⟩ = some (.slice r m j)) ∧ Below W.heap.size W w')
    (first
      | (with_reducible exact HP.out)
      | (with_reducible exact HC.out _ G9.out)
      | (with_reducible exact HC.out _ G10.out))
    ((first
      | (go_at_call 38; (with_reducible refine Calls.mono (C1.out _ (low3 (by assumption))) ?_); rintro e w9 ⟨rfl, b9⟩; (have G9 := Lib.hid ((low3 (by assumption)).trans (b9.mono (low3 (by assumption)).size))))
      | (go_at_call 38; (with_reducible refine Calls.mono (C2.out _ (low3 (by assumption))) ?_); rintro e w10 ⟨rfl, b10⟩; (have G10 := Lib.hid ((low3 (by assumption)).trans (b10.mono (low3 (by assumption)).size))))))
  rename_i hHeld
  obtain ⟨⟨z0, z1⟩, hB1⟩ := hHeld
  obtain ⟨w1, hw1⟩ : ∃ x, x = w10 := ⟨_, rfl⟩
  subst hw1
  have HB1 := Lib.hid hB1
  have HP1 := Lib.hid (HC.out w1.drew hB1.drew)
  clear hB1
  go_wp2_with fail
  go_region_held3 (fun w' => (w'.cell? ⟨w.heap.size, 0, none⟩ = some (.slice (some ⟨b0, o0, none⟩) m k) ∧ w'.cell? ⟨w.heap.size, 1, none⟩ = some (.slice r m j)) ∧ Below W.heap.size W w')
    (first
      | (with_reducible exact HP1.out)
      | (with_reducible exact HC.out _ ((low3 (by assumption)).trans (b9.mono (low3 (by assumption)).size)))
      | (with_reducible exact HC.out _ ((low3 (by assumption)).trans (b10.mono (low3 (by assumption)).size)))
      | (with_reducible exact HC.out _ ((low3 (by assumption)).alloc (low3 (by assumption)).size _))
      | (with_reducible exact HC.out _ HLI.out.2.1)
      | (with_reducible exact HC.out _ (HLI.out.2.1.trans (HFIN.out.2.2.mono HLI.out.2.2.2.2))))
    ((first
      | (go_at_call 28; (with_reducible refine Calls.mono (C3.out _ (low3 (by assumption))) ?_); rintro e w9 ⟨rfl, b9⟩; (have Y9 := Lib.hid ((low3 (by assumption)).trans (b9.mono (low3 (by assumption)).size))))
      | (go_at_call 28; (with_reducible refine Calls.mono (C4.out _ (low3 (by assumption))) ?_); rintro e w10 ⟨rfl, b10⟩; (have Y10 := Lib.hid ((low3 (by assumption)).trans (b10.mono (low3 (by assumption)).size))))
      | (go_at_call 40
         first
           | (with_reducible refine Calls.mono ((HCC.out w9 w10 _ _ _ _ Y10.out).1 b10 rfl rfl rfl) ?_)
           | (with_reducible refine Calls.mono ((HCC.out w10 w9 _ _ _ _ Y9.out).2 b9 rfl rfl rfl) ?_)
           | (with_reducible refine Calls.mono ((HCC.out w10 _ _ _ _ _ (Y10.out.alloc Y10.out.size _)).1 (Below.refl _ _) rfl (by simp) (by simp)) ?_)
           | (with_reducible refine Calls.mono ((HCC.out w10 _ _ _ _ _ (Y10.out.alloc Y10.out.size _)).2 (Below.refl _ _) rfl (by simp) (by simp)) ?_)
           | (with_reducible refine Calls.mono ((HCC.out w9 _ _ _ _ _ (Y9.out.alloc Y9.out.size _)).1 (Below.refl _ _) rfl (by simp) (by simp)) ?_)
           | (with_reducible refine Calls.mono ((HCC.out w9 _ _ _ _ _ (Y9.out.alloc Y9.out.size _)).2 (Below.refl _ _) rfl (by simp) (by simp)) ?_)
         rintro e w11 ⟨v, rfl, hown, b11⟩
         obtain ⟨g, cap, R, rfl, hnc, hcm, hbg, hli, hsz⟩ := Lies.ofOwnC hown (by omega)
         have HLI := Lib.hid (And.intro hli (And.intro b11 (And.intro hsz (And.intro hcm hbg))))
         clear hown b11 hli hsz hcm hbg)
      | (go_at_call 39
         (with_reducible refine Calls.mono (HCP.out _ _ _ _ HLI.out.1 hnc) ?_)
         rintro e w12 ⟨⟨R2, rfl, l2, s2⟩, b12⟩
         have HFIN := Lib.hid (And.intro l2 (And.intro s2 b12))
         clear l2 s2 b12)))
  all_goals
    have HEND := Lib.hid (And.intro (Lies.own (base := w.heap.size) HFIN.out.1 (Nat.le_trans HFB.out.size HLI.out.2.2.2.2) HLI.out.2.2.2.1 (HFIN.out.2.1.trans (by rw [← HNN.out]; exact HLI.out.2.2.1))) (HFB.out.trans ((HLI.out.2.1.trans (HFIN.out.2.2.mono HLI.out.2.2.2.2)).mono HFB.out.size)))
    go_wp2_with fail
    go_ret
    exact ⟨⟨_, rfl, HEND.out.1⟩, HEND.out.2⟩
end Go.Proofs.Ytkebffkekinblaa
