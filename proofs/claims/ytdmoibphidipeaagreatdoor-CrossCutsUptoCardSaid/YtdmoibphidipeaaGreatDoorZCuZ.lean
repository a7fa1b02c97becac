/- The cuts of a way: slices.Reverse at spots, by the library's contract at structs. -/
import Derived.Test.YtdmoibphidipeaaGreatDoorZCuX
import Derived.Test.YtdmoibphidipeaaGreatDoorZShelfK
import Derived.Test.YtdmoibphidipeaaGreatDoorZFlS
import Derived.Deep.CutRange
import Derived.Deep.RegionHeld3
import Derived.Deep.RegionWith
import Derived.Test.YtdmoibphidipeaaGreatDoorZCtC
namespace Go.Proofs.YtdmoibphidipeaaGreatDoor
open Go.RowKit Num rows
open Go.Sort

/-- words that are read lie in no block without integers: what turns there leaves them -/
theorem Num.Rd.else {w w' : World} {g : Nat} {kk : IntKind} {A : Option Addr} {ys : List Nat} (r : Rd w (fun b => b < w.heap.size) kk A ys) (hno : ∀ o k n, w.cell? ⟨g, o, none⟩ ≠ some (.int k n)) (hc : ∀ a : Addr, a.block ≠ g → w'.cell? a = w.cell? a) (hs : w.heap.size ≤ w'.heap.size) : Rd w' (fun b => b < w'.heap.size) kk A ys := fun hn => by
  obtain ⟨b, o, e, hb, h⟩ := r hn
  have hne : b ≠ g := fun e2 => by
    subst e2
    exact hno _ _ _ (h 0 hn)
  exact ⟨b, o, e, Nat.lt_of_lt_of_le hb hs, fun j hj => (hc ⟨b, o + j, none⟩ hne).trans (h j hj)⟩
theorem Sp.Ok.else {w w' : World} {g : Nat} {s : Sp} (h : s.Ok w) (hno : ∀ o k n, w.cell? ⟨g, o, none⟩ ≠ some (.int k n)) (hc : ∀ a : Addr, a.block ≠ g → w'.cell? a = w.cell? a) (hs : w.heap.size ≤ w'.heap.size) : s.Ok w' :=
  ⟨⟨h.1.1.else hno hc hs, h.1.2.else hno hc hs⟩, h.2.1.else hno hc hs, h.2.2.else hno hc hs⟩
section
variable {α : Type} {t : TypeId} {k : Nat} {f : α → List Value}
/-- a block that holds a row of elements of k cells, more behind them, and no integers -/
def LiesR (t : TypeId) (k : Nat) (f : α → List Value) (w : World) (g : Nat) (l : List α) : Prop := ∃ cur, w.heap[g]? = some (.cells cur t (0, 0)) ∧ cur.toList.take (l.length * k) = l.flatMap f ∧ NoInt cur.toList
theorem LiesR.lt {w : World} {g : Nat} {l : List α} (h : LiesR t k f w g l) : g < w.heap.size := by
  obtain ⟨cur, h1, -⟩ := h
  exact (Array.getElem?_eq_some_iff.1 h1).1
theorem LiesR.noint {w : World} {g : Nat} {l : List α} (h : LiesR t k f w g l) : ∀ o kk n, w.cell? ⟨g, o, none⟩ ≠ some (.int kk n) := fun o kk n e => by
  obtain ⟨cur, h1, -, h3⟩ := h
  rw [cell_of_row w g o cur _ (0, 0) h1] at e
  exact h3 _ (Array.mem_toList_iff.2 (Array.mem_of_getElem? e)) _ _ rfl
theorem LiesR.holds [Inhabited α] (hk : ∀ x, (f x).length = k) {w : World} {g : Nat} {l : List α} (h : LiesR t k f w g l) : HoldsK f k w g 0 l.toArray := by
  obtain ⟨cur, h1, h2, -⟩ := h
  intro j hj
  have hj' : j < l.length * k := by simpa using hj
  have k0 : 0 < k := by
    rcases Nat.eq_zero_or_pos k with h | h
    · subst h; simp at hj'
    · exact h
  have hi : j / k < l.length := Nat.div_lt_of_lt_mul (by rwa [Nat.mul_comm] at hj')
  have hm := Nat.mod_lt j k0
  rw [Nat.zero_add, get_flatK f k l.toArray j (by simpa using hj')]
  refine ⟨?_, frozen_of_row w g j cur t h1⟩
  rw [cell_of_row w g j cur _ (0, 0) h1]
  have hg := flat_get hk l (j / k) hi (j % k) hm
  rw [show j / k * k + j % k = j by rw [Nat.mul_comm]; exact Nat.div_add_mod j k, ← h2, List.getElem?_take, if_pos hj'] at hg
  rw [← Array.getElem?_toList, hg]
  have e1 : l.toArray[j / k]! = l[j / k] := by simp [hi]
  rw [e1, getElem!_pos (f l[j / k]) (j % k) (by rw [hk]; exact hm), List.getElem?_eq_getElem (by rw [hk]; exact hm)]
  rfl
/-- what a row that was turned holds -/
theorem putK_cells [Inhabited α] (hk : ∀ x, (f x).length = k) {w : World} {g q : Nat} {l l' : List α} (h : LiesR t k f w g l) (hl : l'.length = l.length) : ∀ (i : Nat) (hi : i < l'.length) (j : Nat) (u : Value), (f l'[i])[j]? = some u → (putRowK f k (Sort.ahead w q) g 0 l'.toArray).cell? ⟨g, i * k + j, none⟩ = some u := by
  intro i hi j u hu
  have hh := holdsK_putRowK f k (Sort.ahead w q) g 0 l.toArray l'.toArray (holdsK_ahead f k w q g 0 _ (h.holds hk)) (by simp [hl])
  have hj : j < k := by have := (List.getElem?_eq_some_iff.1 hu).1; rwa [hk] at this
  have := (hh.cell (i := i) (c := j) (by simpa using hi) hj).1
  rw [Nat.zero_add] at this
  rw [this]
  have e1 : l'.toArray[i]! = l'[i] := by simp [hi]
  rw [e1, getElem!_pos (f l'[i]) j (by rw [hk]; exact hj)]
  rw [List.getElem?_eq_getElem (by rw [hk]; exact hj)] at hu
  exact hu
theorem putK_else [Inhabited α] {w : World} {g q : Nat} {d : Array α} (a : Addr) (ha : a.block ≠ g) : (putRowK f k (Sort.ahead w q) g 0 d).cell? a = w.cell? a := by
  rw [cell?_putRowK_other f k _ _ _ _ _ ha]
  rfl
theorem putK_size [Inhabited α] {w : World} {g q : Nat} {d : Array α} : (putRowK f k (Sort.ahead w q) g 0 d).heap.size = w.heap.size := by
  simp [putRowK, putRow, mapBlock, Sort.ahead]
end
theorem RowO.lies {base : Nat} {w : World} {p : Option Addr} {xs : List Sp} (h : RowO base w p xs) (h0 : 0 < xs.length) : ∃ g, p = some ⟨g, 0, none⟩ ∧ base ≤ g ∧ LiesR 41 6 Sp.cells w g xs := by
  obtain ⟨g, cur, e, hb, h1, h2, h3⟩ := h h0
  exact ⟨g, e, hb, cur, h1, h2, h3⟩
theorem spots_Reverse (xs : List Sp) (base : Nat) (p : Option Addr) (cap : Nat) (w w0 : World) (hO : RowO base w p xs) (h0 : 0 < xs.length) (hB : Below w0.heap.size w0 w) (hb : w0.heap.size ≤ base) (hl : xs.length ≤ 1073741824) :
    Calls Tryz.prog 51 #[.slice p xs.length cap] w fun e w' => e = .returned (.tuple #[]) ∧ RdS w' p xs.reverse ∧ (∀ s : Sp, s.Ok w → s.Ok w') ∧ Below w0.heap.size w0 w' := by
  obtain ⟨g, rfl, hbg, hL⟩ := hO.lies h0
  have hc := AnyQ.slices_Reverse Tryz.revSpot 6 Tryz.isAgg41 Tryz.sizeOf41 Sp.cells (fun _ => rfl) cells_one g 0 cap xs.toArray w (LiesR.holds (f := Sp.cells) (k := 6) (fun _ => rfl) hL) (by simp; omega)
  change Calls Tryz.prog 51 _ _ _ at hc
  rw [List.size_toArray] at hc
  refine hc.mono ?_
  rintro e w' ⟨he, n, rfl⟩
  rw [List.reverse_toArray]
  refine ⟨he, fun hn => ⟨g, 0, rfl, by rw [putK_size]; exact hL.lt, fun i hi j u hu => ?_⟩, fun s hs => hs.else hL.noint (fun a ha => putK_else a ha) (by rw [putK_size]; exact Nat.le_refl _), ?_⟩
  · rw [Nat.zero_add]
    exact putK_cells (f := Sp.cells) (k := 6) (l := xs) (l' := xs.reverse) (fun _ => rfl) hL (by simp) i hi j u hu
  · exact Lib.below_putRow (enc := id) (q := n) hB (Nat.le_trans hb hbg)
end Go.Proofs.YtdmoibphidipeaaGreatDoor
/- The cuts of a way, the program's own. -/

namespace Go.Proofs.YtdmoibphidipeaaGreatDoor
open Go.RowKit Num rows

/-- what is gathered, as it lies -/
def GatC (V : World) (a b : Pt) (l : List Wy) (i : Nat) (v : Value) (wr : World) : Prop :=
  ∃ xs R, OwnR 41 6 wr V.heap.size v (List.length xs) (flat xs) ∧ RowW 16 wr xs R ∧ GathC a b l i R ∧ Below V.heap.size V wr
theorem own_two (V : World) (s t : Sp) : OwnR 41 6 (V.alloc (.cells (s.cells ++ t.cells).toArray 41)) V.heap.size (.slice (some ⟨V.heap.size, 0, none⟩) 2 2) 2 (flat [s, t]) := by
  have e : flat [s, t] = s.cells ++ t.cells := by simp [flat]
  refine ⟨rfl, flat_noint _, .inr ⟨V.heap.size, 2, _, rfl, Nat.le_refl _, heap_alloc_new V _, Nat.le_refl _, by simp [maxLen], rfl, ?_, ?_⟩⟩
  · rw [e]
    exact List.take_of_length_le (Nat.le_refl 12)
  · rw [← e]
    exact flat_noint _
theorem GatC.start {V : World} {a b : Pt} (l : List Wy) {s t : Sp} (hs : s.Red 8) (ht : t.Red 8) (os : s.Ok V) (ot : t.Ok V) (es : sw s = qAt a) (et : sw t = qAt b) : GatC V a b l 0 (.slice (some ⟨V.heap.size, 0, none⟩) 2 2) (V.alloc (.cells (s.cells ++ t.cells).toArray 41)) := by
  have hb : Below V.heap.size V (V.alloc (.cells (s.cells ++ t.cells).toArray 41)) := (Below.refl _ _).alloc (Nat.le_refl _) _
  refine ⟨[s, t], [qAt a, qAt b], own_two V s t, ⟨by simp [es, et], fun u hu => ?_⟩, GathC.zero a b l, hb⟩
  rcases List.mem_cons.1 hu with rfl | hu
  · exact ⟨hs.wide (by omega), os.on hb⟩
  · rw [List.mem_singleton] at hu
    subst hu
    exact ⟨ht.wide (by omega), ot.on hb⟩
theorem GatC.more {V w1 w' : World} {a b : Pt} {l : List Wy} {i : Nat} {v v' : Value} {xs ys : List Sp} {R0 R : List Qp} (ha : FitP a) (hb : FitP b) (hi : i < l.length) (ho : OwnR 41 6 w1 V.heap.size v xs.length (flat xs)) (hr : RowW 16 w1 xs R0) (hg : GathC a b l i R0) (hb1 : Below V.heap.size V w1)
    (hy : RowW 16 w1 ys R) (hm : MeetR a b l[i].1 l[i].2 R) (h' : OwnR 41 6 w' V.heap.size v' (xs.length + ys.length) (flat xs ++ flat ys)) (hgr : w1.grownBy w' v.ownBlock) : GatC V a b l (i + 1) v' w' :=
  ⟨xs ++ ys, R0 ++ R, by rw [List.length_append, flat_app]; exact h', (hr.append hy).imp (fun s k => ho.ok hgr k), hg.more ha hb hi hm, hb1.grown hgr hb1.size (fun k e => (ho.lt k e).1)⟩
theorem GathC.pos {a b : Pt} {l : List Wy} {i : Nat} {R : List Qp} (h : GathC a b l i R) : 0 < R.length := by
  have := (h.1 (qAt a)).2 (.inl rfl)
  exact List.length_pos_of_mem this
theorem RowO.on {base : Nat} {w w' : World} {p : Option Addr} {xs : List Sp} (h : RowO base w p xs) (b : Below w.heap.size w w') : RowO base w' p xs := fun hn => by
  obtain ⟨g, cur, e, hb, h1, h2, h3⟩ := h hn
  exact ⟨g, cur, e, hb, (b.block g (Array.getElem?_eq_some_iff.1 h1).1).trans h1, h2, h3⟩

set_option maxRecDepth 10000 in
set_option maxHeartbeats 3200000 in
theorem cross_CutsNo (a b : Pt) (l : List Wy) (A : Option Addr) (c : Nat) (w : World) (hf : ¬ (FitP a ∧ FitP b)) : Calls Tryz.prog 15 #[segV a b, .slice A l.length c] w (CutsTo a b l w) := by
  obtain ⟨W, hW, k1, bW⟩ := seg_box w a b
  have cM := fun V => cross_may a b V
  unfold segCells at k1
  obtain ⟨p0, p1, p2, p3⟩ := Box.quad k1
  have HK := Lib.hid (And.intro k1 bW)
  have HR := Lib.hid (show CutsR a b l [] from ⟨fun h => absurd h hf, fun _ => rfl⟩)
  unfold segV at *
  rw [decide_eq_false hf] at cM
  have CM := Lib.hid cM
  clear k1 bW cM hf
  go_enter Tryz.func15, Tryz.ntmps15
  go_wp2_with first
    | (rw [hW])
    | (go_at_call 49; (with_reducible refine Calls.mono (CM.out _) ?_); rintro e w1 ⟨rfl, b1⟩)
  go_ret
  exact ⟨none, 0, [], [], rfl, Nat.le_refl _, fun h => by simp at h, RowW.nil _ _, HR.out, by simp, HK.out.2.trans (b1.mono HK.out.2.size)⟩

set_option maxRecDepth 10000 in
set_option maxHeartbeats 12800000 in
theorem cross_CutsFit (a b : Pt) (l : List Wy) (A : Option Addr) (c : Nat) (w : World) (hll : l.length ≤ 500000) (hL : RdV w w.heap.size A (segRow l)) (hf : FitP a ∧ FitP b) : Calls Tryz.prog 15 #[segV a b, .slice A l.length c] w (CutsTo a b l w) := by
  obtain ⟨W, hW, k1, bW⟩ := seg_box w a b
  have cM := fun V => cross_may a b V
  have cMt := fun (c d : Pt) V => cross_Meet a b c d V
  unfold segCells at k1
  obtain ⟨p0, p1, p2, p3⟩ := Box.quad k1
  have HK := Lib.hid (And.intro k1 bW)
  have HL := Lib.hid (And.intro hL hll)
  have HF := Lib.hid hf
  unfold segV at *
  rw [decide_eq_true hf] at cM
  have CM := Lib.hid cM
  have CMT := Lib.hid cMt
  clear k1 bW cM cMt hL hf
  go_enter Tryz.func15, Tryz.ntmps15
  go_upto_region 3 with first
    | (rw [hW])
    | (go_at_call 49; (with_reducible refine Calls.mono (CM.out _) ?_); rintro e w1 ⟨rfl, b1⟩
       obtain ⟨s0, s1, s2, s3⟩ := Box.quad (HK.out.1.below b1 HK.out.1.lt)
       clear p0 p1 p2 p3)
  go_wp2_with fail
  have KB := Lib.hid (HK.out.1.below b1 HK.out.1.lt)
  have BW := Lib.hid (HK.out.2.trans (b1.mono HK.out.2.size))
  refine wp_region_held_drew (S := fun w' => w'.cell? ⟨w.heap.size, 0, none⟩ = some (.int .i64 a.x) ∧ w'.cell? ⟨w.heap.size, 1, none⟩ = some (.int .i64 a.y) ∧ w'.cell? ⟨w.heap.size, 2, none⟩ = some (.int .i64 b.x) ∧ w'.cell? ⟨w.heap.size, 3, none⟩ = some (.int .i64 b.y)) (by kernel_rfl) ⟨s0, s1, s2, s3⟩ (fun hS => ?_)
  refine takeF (i := 0) (v := ?v0) rfl (by kernel_rfl) (by kernel_rfl) (by kernel_rfl) (fun _ _ _ h => h) (Or.inl ⟨by rfl, ?y0⟩) hS ?_
  case y0 =>
    intro w' hSw
    obtain ⟨h0, h1, h2, h3⟩ := hSw
    go_simp
    all_goals (with_reducible rfl)
  simp only [Act.put, List.setIfInBounds_toArray, List.set_cons_zero, List.set_cons_succ]
  refine takeF (i := 1) (v := ?v1) rfl (by kernel_rfl) (by kernel_rfl) (by kernel_rfl) (fun _ _ _ h => h) (Or.inl ⟨by rfl, ?y1⟩) hS ?_
  case y1 =>
    intro w' hSw
    obtain ⟨h0, h1, h2, h3⟩ := hSw
    go_simp
    all_goals (with_reducible rfl)
  simp only [Act.put, List.setIfInBounds_toArray, List.set_cons_zero, List.set_cons_succ]
  refine takeF (i := 3) (v := ?v3) rfl (by kernel_rfl) (by kernel_rfl) (by kernel_rfl) (fun _ _ _ h => h) (Or.inl ⟨by rfl, ?y3⟩) hS ?_
  case y3 =>
    intro w' hSw
    obtain ⟨h0, h1, h2, h3⟩ := hSw
    go_simp
    all_goals (with_reducible rfl)
  simp only [Act.put, List.setIfInBounds_toArray, List.set_cons_zero, List.set_cons_succ]
  refine takeF (i := 4) (v := ?v4) rfl (by kernel_rfl) (by kernel_rfl) (by kernel_rfl) (fun _ _ _ h => h) (Or.inl ⟨by rfl, ?y4⟩) hS ?_
  case y4 =>
    intro w' hSw
    obtain ⟨h0, h1, h2, h3⟩ := hSw
    go_simp
    all_goals (with_reducible rfl)
  simp only [Act.put, List.setIfInBounds_toArray, List.set_cons_zero, List.set_cons_succ]
  refine spots_go (n := 2) w1 (at2 2 5) (at2 6 7) (at2 8 9) (at2 16 19) (at2 5 6) (at2 0 1) (at2 2 3) [16, 19, 5, 6]
    (fun c m s => #[true, true, c 0, true, true, c 1, m 0, m 1, s 0, s 1]) (fun x p => [x 0, x 1, p 0, p 1]) (fun _ => 50) (at2 #[ptV a] #[ptV b]) (at2 (qAt a) (qAt b))
    (by kernel_rfl) (by decide) (fun s hs => Nat.lt_of_lt_of_eq ((by decide : ∀ s ∈ [16, 19, 5, 6], s < 44) s hs) rfl) (fun _ _ => rfl) (fun _ _ _ => rfl)
    ?oc ?oa ?os ?ks ?v ?vs ?vx ?Lg ?Ls ?all ?ws ?call ?S rfl (by decide) ((Below.refl _ _).drew) (fun _ => undef) (fun _ => undef) rfl ?final
  case oc =>
    intro j hj
    obtain rfl | rfl : j = 0 ∨ j = 1 := by omega
    all_goals exact ⟨_, rfl, rfl, rfl, fun vs V => exec_call1 rfl rfl (by go_simp) ((putAll_off _ _ _ _ (by decide)).trans rfl)⟩
  case oa =>
    intro j hj
    obtain rfl | rfl : j = 0 ∨ j = 1 := by omega
    all_goals exact ⟨_, rfl, rfl, rfl, rfl⟩
  case os =>
    intro j hj
    obtain rfl | rfl : j = 0 ∨ j = 1 := by omega
    all_goals exact ⟨_, rfl, rfl, rfl, rfl⟩
  case ks =>
    intro j hj
    obtain rfl | rfl : j = 0 ∨ j = 1 := by omega
    all_goals exact ⟨rfl, rfl⟩
  case v =>
    intro x p j hj
    obtain rfl | rfl : j = 0 ∨ j = 1 := by omega
    all_goals exact ⟨rfl, rfl⟩
  case vs =>
    intro x p j u hj
    obtain rfl | rfl : j = 0 ∨ j = 1 := by omega
    all_goals exact ⟨rfl, rfl⟩
  case vx =>
    intro x x' p p' h
    show [x 0, x 1, p 0, p 1] = _
    rw [(h 0 (by decide)).1, (h 0 (by decide)).2, (h 1 (by decide)).1, (h 1 (by decide)).2]
  case Lg =>
    intro c m s j hj
    obtain rfl | rfl : j = 0 ∨ j = 1 := by omega
    all_goals exact ⟨rfl, rfl, rfl⟩
  case Ls =>
    intro c m s j hj
    obtain rfl | rfl : j = 0 ∨ j = 1 := by omega
    all_goals exact ⟨rfl, rfl, rfl⟩
  case all =>
    intro c m s i hi h
    have hi' : i < 10 := hi
    clear hi
    obtain rfl | rfl | rfl | rfl | rfl | rfl | rfl | rfl | rfl | rfl : i = 0 ∨ i = 1 ∨ i = 2 ∨ i = 3 ∨ i = 4 ∨ i = 5 ∨ i = 6 ∨ i = 7 ∨ i = 8 ∨ i = 9 := by omega
    · cases (show true = false from h)
    · cases (show true = false from h)
    · exact ⟨0, by decide, .inl rfl⟩
    · cases (show true = false from h)
    · cases (show true = false from h)
    · exact ⟨1, by decide, .inl rfl⟩
    · exact ⟨0, by decide, .inr (.inl rfl)⟩
    · exact ⟨1, by decide, .inr (.inl rfl)⟩
    · exact ⟨0, by decide, .inr (.inr rfl)⟩
    · exact ⟨1, by decide, .inr (.inr rfl)⟩
  case ws =>
    intro j hj
    obtain rfl | rfl : j = 0 ∨ j = 1 := by omega
    all_goals exact ⟨by kernel_rfl, by kernel_rfl⟩
  case call =>
    intro j hj V hV
    obtain rfl | rfl : j = 0 ∨ j = 1 := by omega
    · exact spot_AtW a HF.out.1 V
    · exact spot_AtW b HF.out.2 V
  case S =>
    intro w' hb
    obtain ⟨h0, h1, h2, h3⟩ := Box.quad (KB.out.below hb KB.out.lt)
    exact ⟨h0, h1, h2, h3⟩
  case final =>
    intro x g V hV hj hd
    obtain ⟨⟨rA, oA, eA⟩, lA, uA, kA⟩ := hj 0 (by decide)
    replace eA : sw (x 0) = qAt a := eA
    obtain ⟨⟨rB, oB, eB⟩, lB, uB, kB⟩ := hj 1 (by decide)
    replace eB : sw (x 1) = qAt b := eB
    clear hj hd hS s0 s1 s2 s3
    simp only [putAll, Act.put, List.setIfInBounds_toArray, List.set_cons_zero, List.set_cons_succ]
    generalize x 0 = sA at *
    generalize g 0 = gA at *
    generalize x 1 = sB at *
    generalize g 1 = gB at *
    obtain ⟨ax0, ax1, ax2, ax3, ax4, ax5⟩ := (Blk.facts6 kA).1
    obtain ⟨bx0, bx1, bx2, bx3, bx4, bx5⟩ := (Blk.facts6 kB).1
    have HV := Lib.hid (BW.out.trans (hV.mono BW.out.size))
    have HA := Lib.hid (And.intro (And.intro rA (And.intro oA eA)) (And.intro uA kA))
    have HB := Lib.hid (And.intro (And.intro rB (And.intro oB eB)) (And.intro uB kB))
    have HKV := Lib.hid (KB.out.below (hV) KB.out.lt)
    have HST := Lib.hid (GatC.start (V := V) l rA rB oA oB eA eB)
    have HLV := Lib.hid (HL.out.1.on HV.out)
    obtain ⟨W3, hW3⟩ : ∃ W3, V.alloc (.cells #[.bool sA.n1, .slice sA.A1 sA.a1.length sA.c1, .slice sA.D1 sA.d1.length sA.e1, .bool sA.n2, .slice sA.A2 sA.a2.length sA.c2, .slice sA.D2 sA.d2.length sA.e2, .bool sB.n1, .slice sB.A1 sB.a1.length sB.c1, .slice sB.D1 sB.d1.length sB.e1, .bool sB.n2, .slice sB.A2 sB.a2.length sB.c2, .slice sB.D2 sB.d2.length sB.e2] 41) = W3 := ⟨_, rfl⟩
    have HST3 := Lib.hid (show GatC V a b l 0 (.slice (some ⟨V.heap.size, 0, none⟩) 2 2) W3 from by rw [← hW3]; exact HST.out)
    clear rA rB oA oB eA eB uA uB kA kB lA lB hV KB BW HST hll b1
    go_wp2_with (rw [hW3])
    clear ax0 ax1 ax2 ax3 ax4 ax5 bx0 bx1 bx2 bx3 bx4 bx5 hW3
    go_loopg [7, 9, 25] l.length (fun gh v7 v9 v25 wr => ∃ i : Nat, v25 = .int .i64 (i : Int) ∧ gh + i = l.length ∧ GatC V a b l i v7 wr)
    case atStart => exact ⟨0, rfl, by omega, HST3.out⟩
    case round =>
      obtain ⟨i, rfl, hg, xs, R0, ho, hr, hgc, hbl⟩ := hrel
      have HG := Lib.hid hg
      have HO := Lib.hid (And.intro ho (And.intro hr (And.intro hgc hbl)))
      have hxl : xs.length ≤ 2 + 2 * i := by rw [hr.length]; exact hgc.2
      clear hg ho hr hgc hbl
      by_cases hi : i < l.length
      · have hii : (i : Int) < l.length := by omega
        have hii2 : (0 : Int) ≤ (i : Int) ∧ (i : Int) < l.length := by omega
        have htn : (i : Int).toNat = i := by omega
        have hwi : IntKind.i64.wrap ((i : Int) + 1) = (i : Int) + 1 := IntWalk.i64_in _ (by have := HL.out.2; omega)
        have BV := HO.out.2.2.2
        obtain ⟨bq, oq, rfl, hbq, q0, q1, q2, q3⟩ := (HLV.out.on BV).seg hi
        obtain ⟨⟨tc, td⟩, ht⟩ : ∃ t, l[i] = t := ⟨_, rfl⟩
        rw [ht] at q0 q1 q2 q3
        dsimp only at q0 q1 q2 q3
        obtain ⟨W5, hW5, k5, b5⟩ := seg_box wr tc td
        unfold segCells at k5
        have BV5 := BV.trans (b5.mono BV.size)
        obtain ⟨p0, p1, p2, p3⟩ := Box.quad (HKV.out.below BV5 HKV.out.lt)
        obtain ⟨t0, t1, t2, t3⟩ := Box.quad k5
        have HT := Lib.hid ht
        have HB5 := Lib.hid (And.intro b5 BV5)
        have hn5 : xs.length + 2 ≤ 1073741824 := by have := HL.out.2; omega
        clear k5 b5 BV5 BV ht
        go_wp2_with first
          | (rw [hW5])
          | (go_at_call 10; (with_reducible refine Calls.mono (CMT.out tc td _) ?_); rintro e w6 ⟨pY, capY, ys, RY, rfl, hcY, hrY, hwY, hmY, b6⟩
             have HY := Lib.hid (And.intro hrY (And.intro hwY (And.intro hmY b6)))
             have hyl : ys.length ≤ 2 := by rw [hwY.length]; exact hmY.le
             have BB := Lib.hid (HB5.out.1.trans (b6.mono HB5.out.1.size))
             have hz6 : V.heap.size ≤ w6.heap.size := (HO.out.2.2.2.trans (BB.out.mono HO.out.2.2.2.size)).size
             clear hcY hrY hwY hmY b6 p0 p1 p2 p3 t0 t1 t2 t3)
          | (at_builtin; refine wpList_append_R elem_spot _ rfl _ _ rfl V.heap.size _ xs.length (flat xs) rfl (HO.out.1.kept BB.out) pY ys.length capY (flat ys) rfl (flat_len ys) HY.out.1.flatRead (flat_one ys) (flat_noint ys) (by omega) hz6 ?_
             intro vn wn hownn hgrown
             have hownn := Lib.hid hownn
             have hgrown := Lib.hid hgrown)
        go_roundg (l.length - (i + 1))
        case measure => have := HG.out; omega
        case rel =>
          refine ⟨i + 1, by go_num, by have := HG.out; omega, ?_⟩
          refine GatC.more HF.out.1 HF.out.2 hi (HO.out.1.kept BB.out) (HO.out.2.1.on BB.out) HO.out.2.2.1 (HO.out.2.2.2.trans (BB.out.mono HO.out.2.2.2.size)) HY.out.2.1 ?_ hownn.out hgrown.out
          rw [HT.out]
          exact HY.out.2.2.1
      · obtain rfl : i = l.length := by have := HG.out; omega
        obtain ⟨p7, cap7, rfl, hc7⟩ := HO.out.1.any
        have h0 : 0 < xs.length := by rw [HO.out.2.1.length]; exact HO.out.2.2.1.pos
        have hrow := spot_RowM (M := 16) (by omega) (by omega) xs p7 cap7 wr (by have := HL.out.2; omega) h0 (OwnS.reads HO.out.1) HO.out.2.1.2
        have CR := Lib.hid hrow
        obtain ⟨z, hz⟩ : ∃ z, cmpS sA sB = z := ⟨_, rfl⟩
        have hle := cmp_le HA.out.1.2.2 HB.out.1.2.2
        rw [hz] at hle
        have hall := fun (R : List Qp) (hs : R.Pairwise ltQ) (hm : ∀ q, q ∈ R ↔ q ∈ xs.map sw) => HO.out.2.2.1.all HF.out.1 HF.out.2 HO.out.2.1.1 hs hm
        have cC := fun (U : World) (hU : Below V.heap.size V U) => spot_CmpW (M := 8) (by omega) (by omega) sA sB HA.out.1.1 HB.out.1.1 z hz U (HA.out.1.2.1.on hU) (HB.out.1.2.1.on hU)
        unfold spV at cC
        have CC := Lib.hid cC
        have HALL := Lib.hid hall
        have HLE := Lib.hid hle
        have hcells := fun (U : World) (hU : Below V.heap.size V U) => And.intro (HA.out.2.2.below hU HA.out.2.1) (HB.out.2.2.below hU HB.out.2.1)
        have HC := Lib.hid hcells
        have HX := Lib.hid (show xs.length ≤ 2 + 2 * l.length from hxl)
        clear hrow hz hle hall cC hcells hc7 hxl
        by_cases hz0 : z ≤ 0
        · go_wp2_with first
            | (go_at_call 37; (with_reducible refine Calls.mono CR.out ?_); rintro e w6 ⟨p6, cap6, zs, RZ, rfl, hc6, hr6, hw6, hs6, hl6, b6, ho6⟩
               have H6 := Lib.hid (And.intro hc6 (And.intro hr6 (And.intro hw6 (And.intro hs6 (And.intro hl6 (And.intro b6 ho6))))))
               have B6 := Lib.hid (HO.out.2.2.2.trans (b6.mono HO.out.2.2.2.size))
               obtain ⟨⟨ax0, ax1, ax2, ax3, ax4, ax5⟩, -⟩ := Blk.facts6 (HC.out _ B6.out).1
               obtain ⟨⟨bx0, bx1, bx2, bx3, bx4, bx5⟩, -⟩ := Blk.facts6 (HC.out _ B6.out).2
               clear hc6 hr6 hw6 hs6 hl6 b6 ho6)
            | (go_at_call 32; (with_reducible refine Calls.mono (CC.out _ B6.out) ?_); rintro e w7 ⟨rfl, b7⟩
               have B7 := Lib.hid b7
               clear b7 ax0 ax1 ax2 ax3 ax4 ax5 bx0 bx1 bx2 bx3 bx4 bx5)
          go_ret
          have hq := (HALL.out RZ H6.out.2.2.2.1.1 H6.out.2.2.2.1.2).1 (HLE.out.1 hz0)
          have hlen : RZ.length ≤ 2 + 2 * l.length := by rw [← H6.out.2.2.1.length]; have := H6.out.2.2.2.2.1; have := HX.out; omega
          exact ⟨p6, cap6, zs, RZ, rfl, H6.out.1, H6.out.2.1.on B7.out, H6.out.2.2.1.on B7.out, hq, hlen, HV.out.trans ((B6.out.trans (B7.out.mono B6.out.size)).mono HV.out.size)⟩
        · have hz1 : 0 < z := by omega
          go_wp2_with first
            | (go_at_call 37; (with_reducible refine Calls.mono CR.out ?_); rintro e w6 ⟨p6, cap6, zs, RZ, rfl, hc6, hr6, hw6, hs6, hl6, b6, ho6⟩
               have H6 := Lib.hid (And.intro hc6 (And.intro hr6 (And.intro hw6 (And.intro hs6 (And.intro hl6 (And.intro b6 ho6))))))
               have B6 := Lib.hid (HO.out.2.2.2.trans (b6.mono HO.out.2.2.2.size))
               obtain ⟨⟨ax0, ax1, ax2, ax3, ax4, ax5⟩, -⟩ := Blk.facts6 (HC.out _ B6.out).1
               obtain ⟨⟨bx0, bx1, bx2, bx3, bx4, bx5⟩, -⟩ := Blk.facts6 (HC.out _ B6.out).2
               clear hc6 hr6 hw6 hs6 hl6 b6 ho6)
            | (go_at_call 32; (with_reducible refine Calls.mono (CC.out _ B6.out) ?_); rintro e w7 ⟨rfl, b7⟩
               have B7 := Lib.hid b7
               have hpos : 0 < zs.length := by
                 rw [H6.out.2.2.1.length]
                 have : qAt a ∈ RZ := (H6.out.2.2.2.1.2 _).2 (by rw [HO.out.2.1.1]; exact (HO.out.2.2.1.1 _).2 (.inl rfl))
                 exact List.length_pos_of_mem this
               have CV := Lib.hid (spots_Reverse zs wr.heap.size p6 cap6 w7 wr (H6.out.2.2.2.2.2.2.on b7) hpos (H6.out.2.2.2.2.2.1.trans (b7.mono H6.out.2.2.2.2.2.1.size)) (Nat.le_refl _) (by have := H6.out.2.2.2.2.1; have := HX.out; have := HL.out.2; omega))
               clear b7 hpos ax0 ax1 ax2 ax3 ax4 ax5 bx0 bx1 bx2 bx3 bx4 bx5)
            | (go_at_call 51; (with_reducible refine Calls.mono CV.out ?_); rintro e w8 ⟨rfl, hr8, hk8, b8⟩)
          go_ret
          have hq := (HALL.out RZ H6.out.2.2.2.1.1 H6.out.2.2.2.1.2).2 (fun h => by have := HLE.out.2 h; omega)
          have hlen : RZ.length ≤ 2 + 2 * l.length := by rw [← H6.out.2.2.1.length]; have := H6.out.2.2.2.2.1; have := HX.out; omega
          refine ⟨p6, cap6, zs.reverse, RZ.reverse, (show Ending.returned (.slice p6 zs.length cap6) = Ending.returned (.slice p6 zs.reverse.length cap6) from by rw [List.length_reverse]), by rw [List.length_reverse]; exact H6.out.1, hr8, ((H6.out.2.2.1.on B7.out).rev).imp hk8, hq, by rw [List.length_reverse]; exact hlen, ?_⟩
          have BV := HO.out.2.2.2
          exact HV.out.trans ((BV.trans (b8.mono BV.size)).mono HV.out.size)
theorem cross_Cuts (a b : Pt) (l : List Wy) (A : Option Addr) (c : Nat) (w : World) (hll : l.length ≤ 500000) (hL : RdV w w.heap.size A (segRow l)) : Calls Tryz.prog 15 #[segV a b, .slice A l.length c] w (CutsTo a b l w) := by
  by_cases hf : FitP a ∧ FitP b
  · exact cross_CutsFit a b l A c w hll hL hf
  · exact cross_CutsNo a b l A c w hf
end Go.Proofs.YtdmoibphidipeaaGreatDoor
/- The cuts of a way, the document's own. -/

namespace Go.Proofs.YtdmoibphidipeaaGreatDoor
open Go.RowKit Num rows

set_option maxRecDepth 10000 in
set_option maxHeartbeats 3200000 in
theorem ref17_CutsNo (a b : Pt) (l : List Wy) (A : Option Addr) (c : Nat) (w : World) (hf : ¬ (FitP a ∧ FitP b)) : Calls Tryz.prog 16 #[segV a b, .slice A l.length c] w (CutsTo a b l w) := by
  obtain ⟨W, hW, k1, bW⟩ := seg_box w a b
  have cM := fun V => ref17_May a b V
  unfold segCells at k1
  obtain ⟨p0, p1, p2, p3⟩ := Box.quad k1
  have HK := Lib.hid (And.intro k1 bW)
  have HR := Lib.hid (show CutsR a b l [] from ⟨fun h => absurd h hf, fun _ => rfl⟩)
  unfold segV at *
  rw [decide_eq_false hf] at cM
  have CM := Lib.hid cM
  clear k1 bW cM hf
  go_enter Tryz.func16, Tryz.ntmps16
  go_wp2_with first
    | (rw [hW])
    | (go_at_call 39; (with_reducible refine Calls.mono (CM.out _) ?_); rintro e w1 ⟨rfl, b1⟩)
  go_ret
  exact ⟨none, 0, [], [], rfl, Nat.le_refl _, fun h => by simp at h, RowW.nil _ _, HR.out, by simp, HK.out.2.trans (b1.mono HK.out.2.size)⟩

theorem OwnR.drew {t : TypeId} {k : Nat} {w : World} {base : Nat} {v : Value} {n : Nat} {xs : List Value} (h : OwnR t k w base v n xs) : OwnR t k w.drew base v n xs := h
theorem RowW.drew {M : Nat} {w : World} {xs : List Sp} {R : List Qp} (h : RowW M w xs R) : RowW M w.drew xs R := h

set_option maxRecDepth 10000 in
set_option maxHeartbeats 12800000 in
theorem ref17_CutsFit (a b : Pt) (l : List Wy) (A : Option Addr) (c : Nat) (w : World) (hll : l.length ≤ 500000) (hL : RdV w w.heap.size A (segRow l)) (hf : FitP a ∧ FitP b) : Calls Tryz.prog 16 #[segV a b, .slice A l.length c] w (CutsTo a b l w) := by
  obtain ⟨W, hW, k1, bW⟩ := seg_box w a b
  have cM := fun V => ref17_May a b V
  have cMt := fun (c d : Pt) V => ref17_Meet a b c d V
  have cA := fun V => ref5_AtW a hf.1 V
  have cB := fun V => ref5_AtW b hf.2 V
  unfold segCells at k1
  obtain ⟨p0, p1, p2, p3⟩ := Box.quad k1
  have HK := Lib.hid (And.intro k1 bW)
  have HL := Lib.hid (And.intro hL hll)
  have HF := Lib.hid hf
  unfold segV ptV at *
  rw [decide_eq_true hf] at cM
  have CM := Lib.hid cM
  have CMT := Lib.hid cMt
  have KA := Lib.hid cA
  have KB := Lib.hid cB
  clear k1 bW cM cMt hL hf cA cB
  go_enter Tryz.func16, Tryz.ntmps16
  go_upto_region 3 with first
    | (rw [hW])
    | (go_at_call 39; (with_reducible refine Calls.mono (CM.out _) ?_); rintro e w1 ⟨rfl, b1⟩
       obtain ⟨s0, s1, s2, s3⟩ := Box.quad (HK.out.1.below b1 HK.out.1.lt)
       clear p0 p1 p2 p3)
  have HSV := Lib.hid (show ∀ w', Below w1.heap.size w1 w' → w'.cell? ⟨w.heap.size, 0, none⟩ = some (.int .i64 a.x) ∧ w'.cell? ⟨w.heap.size, 1, none⟩ = some (.int .i64 a.y) ∧ w'.cell? ⟨w.heap.size, 2, none⟩ = some (.int .i64 b.x) ∧ w'.cell? ⟨w.heap.size, 3, none⟩ = some (.int .i64 b.y) from fun w' hb => Box.quad ((HK.out.1.below b1 HK.out.1.lt).below hb (Nat.lt_of_lt_of_le HK.out.1.lt b1.size)))
  have BW := Lib.hid (HK.out.2.trans (b1.mono HK.out.2.size))
  have K0 : Below w1.heap.size w1 w1.drew := (Below.refl _ _).drew
  clear b1
  go_wp2_with fail
  go_region_held3 (fun w' => w'.cell? ⟨w.heap.size, 0, none⟩ = some (.int .i64 a.x) ∧ w'.cell? ⟨w.heap.size, 1, none⟩ = some (.int .i64 a.y) ∧ w'.cell? ⟨w.heap.size, 2, none⟩ = some (.int .i64 b.x) ∧ w'.cell? ⟨w.heap.size, 3, none⟩ = some (.int .i64 b.y))
    (first | (with_reducible exact HSV.out _ K0) | (with_reducible exact HSV.out _ K1) | (with_reducible exact HSV.out _ K2) | (with_reducible exact HSV.out _ K3))
    ((first
      | (go_at_call 19; (with_reducible refine Calls.mono (KA.out _) ?_); rintro e v3 ⟨sA, rfl, rA, oA, eA, b3⟩; unfold spV; have K1 := below_next K0 (Nat.le_refl _) b3)
      | (go_at_call 19; (with_reducible refine Calls.mono (KB.out _) ?_); rintro e v4 ⟨sB, rfl, rB, oB, eB, b4⟩; unfold spV; have K2 := below_next K1 (Nat.le_refl _) b4
         have K3 := K2.alloc K2.size (.cells #[.bool sA.n1, .slice sA.A1 sA.a1.length sA.c1, .slice sA.D1 sA.d1.length sA.e1, .bool sA.n2, .slice sA.A2 sA.a2.length sA.c2, .slice sA.D2 sA.d2.length sA.e2, .bool sB.n1, .slice sB.A1 sB.a1.length sB.c1, .slice sB.D1 sB.d1.length sB.e1, .bool sB.n2, .slice sB.A2 sB.a2.length sB.c2, .slice sB.D2 sB.d2.length sB.e2] 41))))
  obtain ⟨W3, hW3⟩ : ∃ W3, v4.alloc (.cells #[.bool sA.n1, .slice sA.A1 sA.a1.length sA.c1, .slice sA.D1 sA.d1.length sA.e1, .bool sA.n2, .slice sA.A2 sA.a2.length sA.c2, .slice sA.D2 sA.d2.length sA.e2, .bool sB.n1, .slice sB.A1 sB.a1.length sB.c1, .slice sB.D1 sB.d1.length sB.e1, .bool sB.n2, .slice sB.A2 sB.a2.length sB.c2, .slice sB.D2 sB.d2.length sB.e2] 41) = W3 := ⟨_, rfl⟩
  have HST3 := Lib.hid (show GatC v4 a b l 0 (.slice (some ⟨v4.heap.size, 0, none⟩) 2 2) W3 from by rw [← hW3]; exact GatC.start (V := v4) l rA rB (oA.on b4) oB eA eB)
  have HV := Lib.hid (BW.out.trans (K2.mono BW.out.size))
  have HKV := Lib.hid (show ∀ w', Below v4.heap.size v4 w' → w'.cell? ⟨w.heap.size, 0, none⟩ = some (.int .i64 a.x) ∧ w'.cell? ⟨w.heap.size, 1, none⟩ = some (.int .i64 a.y) ∧ w'.cell? ⟨w.heap.size, 2, none⟩ = some (.int .i64 b.x) ∧ w'.cell? ⟨w.heap.size, 3, none⟩ = some (.int .i64 b.y) from fun w' hb => HSV.out _ (K2.trans (hb.mono K2.size)))
  have HLV := Lib.hid (HL.out.1.on HV.out)
  clear b3 b4 rA oA eA rB oB eB K0 K1 K2 HSV BW s0 s1 s2 s3
  try clear K3
  go_wp2_with (rw [hW3])
  clear hW3
  go_loopg [5, 6] l.length (fun gh v5 v6 wr => ∃ i : Nat, v6 = .int .i64 (i : Int) ∧ gh + i = l.length ∧ GatC v4 a b l i v5 wr)
  case atStart => exact ⟨0, rfl, by omega, HST3.out⟩
  case round =>
    obtain ⟨i, rfl, hg, xs, R0, ho, hr, hgc, hbl⟩ := hrel
    have HG := Lib.hid hg
    have HO := Lib.hid (And.intro ho (And.intro hr (And.intro hgc hbl)))
    have hxl : xs.length ≤ 2 + 2 * i := by rw [hr.length]; exact hgc.2
    clear hg ho hr hgc hbl
    by_cases hi : i < l.length
    · have hii : (i : Int) < l.length := by omega
      have hii2 : (0 : Int) ≤ (i : Int) ∧ (i : Int) < l.length := by omega
      have htn : (i : Int).toNat = i := by omega
      have BV := HO.out.2.2.2
      obtain ⟨bq, oq, rfl, hbq, -⟩ := HLV.out.seg hi
      obtain ⟨bq', oq', eq', hbq', q0, q1, q2, q3⟩ := HLV.out.seg hi
      cases eq'
      obtain ⟨⟨tc, td⟩, ht⟩ : ∃ t, l[i] = t := ⟨_, rfl⟩
      rw [ht] at q0 q1 q2 q3
      dsimp only at q0 q1 q2 q3
      have HT := Lib.hid ht
      have HS := Lib.hid (show ∀ w', Below v4.heap.size v4 w' → w'.cell? ⟨w.heap.size, 0, none⟩ = some (.int .i64 a.x) ∧ w'.cell? ⟨w.heap.size, 1, none⟩ = some (.int .i64 a.y) ∧ w'.cell? ⟨w.heap.size, 2, none⟩ = some (.int .i64 b.x) ∧ w'.cell? ⟨w.heap.size, 3, none⟩ = some (.int .i64 b.y) ∧ w'.cell? ⟨bq, oq + i * 4, none⟩ = some (.int .i64 tc.x) ∧ w'.cell? ⟨bq, oq + i * 4 + 1, none⟩ = some (.int .i64 tc.y) ∧ w'.cell? ⟨bq, oq + i * 4 + 2, none⟩ = some (.int .i64 td.x) ∧ w'.cell? ⟨bq, oq + i * 4 + 3, none⟩ = some (.int .i64 td.y) from fun w' hb => by
        obtain ⟨m0, m1, m2, m3⟩ := HKV.out _ hb
        exact ⟨m0, m1, m2, m3, (hb.cell (p := ⟨bq, oq + i * 4, none⟩) hbq).trans q0, (hb.cell (p := ⟨bq, oq + i * 4 + 1, none⟩) hbq).trans q1, (hb.cell (p := ⟨bq, oq + i * 4 + 2, none⟩) hbq).trans q2, (hb.cell (p := ⟨bq, oq + i * 4 + 3, none⟩) hbq).trans q3⟩)
      have K0 : Below v4.heap.size v4 wr.drew := BV.drew
      have hn5 : xs.length + 2 ≤ 1073741824 := by have := HL.out.2; omega
      clear ht q0 q1 q2 q3 hbq' BV
      go_wp2_with fail
      go_region_held3 (fun w' => w'.cell? ⟨w.heap.size, 0, none⟩ = some (.int .i64 a.x) ∧ w'.cell? ⟨w.heap.size, 1, none⟩ = some (.int .i64 a.y) ∧ w'.cell? ⟨w.heap.size, 2, none⟩ = some (.int .i64 b.x) ∧ w'.cell? ⟨w.heap.size, 3, none⟩ = some (.int .i64 b.y) ∧ w'.cell? ⟨bq, oq + i * 4, none⟩ = some (.int .i64 tc.x) ∧ w'.cell? ⟨bq, oq + i * 4 + 1, none⟩ = some (.int .i64 tc.y) ∧ w'.cell? ⟨bq, oq + i * 4 + 2, none⟩ = some (.int .i64 td.x) ∧ w'.cell? ⟨bq, oq + i * 4 + 3, none⟩ = some (.int .i64 td.y))
        (first | (with_reducible exact HS.out _ K0) | (with_reducible exact HS.out _ K1) | (with_reducible exact HS.out _ K2))
        ((first
          | (go_at_call 11; (with_reducible refine Calls.mono (CMT.out tc td _) ?_); rintro e w6 ⟨pY, capY, ys, RY, rfl, hcY, hrY, hwY, hmY, b6⟩
             have K1 : Below v4.heap.size v4 w6 := K0.trans (b6.mono K0.size)
             have HY := Lib.hid (And.intro hrY (And.intro hwY (And.intro hmY b6)))
             have hyl : ys.length ≤ 2 := by rw [hwY.length]; exact hmY.le
             have hz6 : v4.heap.size ≤ w6.heap.size := K1.size
             clear hcY hrY hwY hmY b6)
          | (refine step_append_R elem_spot _ (by rfl) _ _ (by rfl) v4.heap.size _ xs.length (flat xs) (by rfl) ((OwnR.drew HO.out.1).kept HY.out.2.2.2) pY ys.length capY (flat ys) (by rfl) (flat_len ys) HY.out.1.flatRead (flat_one ys) (flat_noint ys) (by omega) hz6 ?_
             intro vn wn hownn hgrown
             have K2 : Below v4.heap.size v4 wn := K1.grown hgrown K1.size (fun k e => (HO.out.1.lt k e).1)
             have HOWN := Lib.hid (And.intro hownn hgrown)
             clear hownn hgrown)))
      go_wp2_with fail
      go_roundg (l.length - (i + 1))
      case measure => have := HG.out; omega
      case rel =>
        refine ⟨i + 1, by go_num, by have := HG.out; omega, ?_⟩
        refine GatC.more HF.out.1 HF.out.2 hi ((OwnR.drew HO.out.1).kept HY.out.2.2.2) ((RowW.drew HO.out.2.1).on HY.out.2.2.2) HO.out.2.2.1 K1 HY.out.2.1 ?_ HOWN.out.1 HOWN.out.2
        rw [HT.out]
        exact HY.out.2.2.1
    · obtain rfl : i = l.length := by have := HG.out; omega
      obtain ⟨p7, cap7, rfl, hc7⟩ := HO.out.1.any
      have hrow := ref5_RowM (M := 16) (by omega) xs p7 cap7 wr (by have := HL.out.2; omega) hc7 (OwnS.reads HO.out.1) HO.out.2.1.2
      have CR := Lib.hid hrow
      have hall := fun (R : List Qp) (hs : R.Pairwise ltQ) (hm : ∀ q, q ∈ R ↔ q ∈ xs.map sw) => HO.out.2.2.1.all HF.out.1 HF.out.2 HO.out.2.1.1 hs hm
      have HALL := Lib.hid hall
      have HX := Lib.hid (show xs.length ≤ 2 + 2 * l.length from hxl)
      clear hrow hall hc7 hxl
      go_wp2_with first
        | (go_at_call 46; (with_reducible refine Calls.mono CR.out ?_); rintro e w6 ⟨p6, cap6, zs, RZ, rfl, hc6, hr6, hw6, hs6, hl6, b6⟩
           have H6 := Lib.hid (And.intro hc6 (And.intro hr6 (And.intro hw6 (And.intro hs6 (And.intro hl6 b6)))))
           have B6 := Lib.hid (HO.out.2.2.2.trans (b6.mono HO.out.2.2.2.size))
           clear hc6 hr6 hw6 hs6 hl6 b6)
      have K0 : Below v4.heap.size v4 w6.drew := B6.out.drew
      go_region_held3 (fun w' => w'.cell? ⟨w.heap.size, 0, none⟩ = some (.int .i64 a.x) ∧ w'.cell? ⟨w.heap.size, 1, none⟩ = some (.int .i64 a.y) ∧ w'.cell? ⟨w.heap.size, 2, none⟩ = some (.int .i64 b.x) ∧ w'.cell? ⟨w.heap.size, 3, none⟩ = some (.int .i64 b.y))
        (first | (with_reducible exact HKV.out _ K0) | (with_reducible exact HKV.out _ K1) | (with_reducible exact HKV.out _ K2) | (with_reducible exact HKV.out _ K3))
        ((first
          | (go_at_call 19; (with_reducible refine Calls.mono (KA.out _) ?_); rintro e v7 ⟨sC, rfl, rC, oC, eC, b7⟩; unfold spV; have K1 : Below v4.heap.size v4 v7 := K0.trans (b7.mono K0.size))
          | (go_at_call 19; (with_reducible refine Calls.mono (KB.out _) ?_); rintro e v8 ⟨sD, rfl, rD, oD, eD, b8⟩; unfold spV; have K2 : Below v4.heap.size v4 v8 := K1.trans (b8.mono K1.size)
             obtain ⟨z, hz⟩ : ∃ z, cmpS sC sD = z := ⟨_, rfl⟩
             have cC := ref5_CmpW (M := 8) (by omega) sC sD rC rD z hz v8 (oC.on b8) oD
             have HLE := Lib.hid (cmp_le eC eD)
             rw [hz] at HLE
             unfold spV at cC
             have CC := Lib.hid cC
             clear cC hz)
          | (go_at_call 47; (with_reducible refine Calls.mono CC.out ?_); rintro e v9 ⟨rfl, b9⟩; have K3 : Below v4.heap.size v4 v9 := K2.trans (b9.mono K2.size))))
      have B69 := Lib.hid (show Below w6.heap.size w6 v9 from (Below.refl w6.heap.size w6).drew.trans ((b7.trans (b8.mono b7.size)).trans (b9.mono (b7.trans (b8.mono b7.size)).size)))
      have K9 := Lib.hid K3
      clear b7 b8 b9 K0 K1 K2 K3 rC oC eC rD oD eD CC
      by_cases hz0 : z ≤ 0
      · go_wp2_with fail
        go_ret
        have hq := (HALL.out RZ H6.out.2.2.2.1.1 H6.out.2.2.2.1.2).1 (HLE.out.1 hz0)
        have hlen : RZ.length ≤ 2 + 2 * l.length := by rw [← H6.out.2.2.1.length]; have := H6.out.2.2.2.2.1; have := HX.out; omega
        exact ⟨p6, cap6, zs, RZ, rfl, H6.out.1, H6.out.2.1.on B69.out, H6.out.2.2.1.on B69.out, hq, hlen, HV.out.trans (K9.out.mono HV.out.size)⟩
      · obtain ⟨n, hn⟩ : ∃ n, zs.length = n := ⟨_, rfl⟩
        have hnl : n ≤ 1048576 := by have := H6.out.2.2.2.2.1; have := HX.out; have := HL.out.2; omega
        have hpos : 0 < n := by
          rw [← hn, H6.out.2.2.1.length]
          have : qAt a ∈ RZ := (H6.out.2.2.2.1.2 _).2 (by rw [HO.out.2.1.1]; exact (HO.out.2.2.1.1 _).2 (.inl rfl))
          exact List.length_pos_of_mem this
        have HRD := Lib.hid (H6.out.2.1.on B69.out)
        have HRW := Lib.hid (H6.out.2.2.1.on B69.out)
        obtain ⟨bz, oz, rfl, hbz, -⟩ := HRD.out (by omega)
        have HN := Lib.hid hn
        have hwn : IntKind.i64.wrap ((n : Int) - 1) = (n : Int) - 1 := IntWalk.i64_in _ (by omega)
        rw [hn]
        have hbz2 := Lib.hid hbz
        clear hbz hn
        go_wp2_with fail
        try simp only [show wrap64 ((n : Int) - 1) = (n : Int) - 1 from by unfold wrap64; omega]
        go_loopg [7, 8] n (fun gh u7 u8 wq => ∃ r : Nat, u8 = .int .i64 ((r : Int) - 1) ∧ gh = r ∧ r ≤ n ∧ OwnR 41 6 wq v9.heap.size u7 (n - r) (flat (zs.reverse.take (n - r))) ∧ Below v9.heap.size v9 wq)
        case atStart => exact ⟨n, rfl, rfl, Nat.le_refl _, by rw [Nat.sub_self]; exact OwnR.nil _ _ _ _, Below.refl _ _⟩
        case round =>
          obtain ⟨r, rfl, hgr, hrn, how, hbq⟩ := hrel
          have HGR := Lib.hid hgr
          have HOW := Lib.hid how
          have HBQ := Lib.hid hbq
          clear hgr how hbq
          rcases Nat.eq_zero_or_pos r with hr0 | hr0
          · subst hr0
            have e1 : zs.reverse.take (n - 0) = zs.reverse := List.take_of_length_le (by rw [List.length_reverse, HN.out]; omega)
            have hfin := HOW.out
            rw [e1, Nat.sub_zero] at hfin
            obtain ⟨p7, cap7, rfl, hc7⟩ := hfin.any
            have hfin2 : OwnR 41 6 wr v9.heap.size (.slice p7 zs.reverse.length cap7) zs.reverse.length (flat zs.reverse) := by rw [List.length_reverse, HN.out]; exact hfin
            have HFIN := Lib.hid (And.intro (OwnS.reads hfin2) hc7)
            clear hfin hfin2 e1 hc7
            go_wp2_with fail
            go_ret
            have hq := (HALL.out RZ H6.out.2.2.2.1.1 H6.out.2.2.2.1.2).2 (fun h => by have := HLE.out.2 h; omega)
            have hlen : RZ.length ≤ 2 + 2 * l.length := by rw [← H6.out.2.2.1.length]; have := H6.out.2.2.2.2.1; have := HX.out; omega
            refine ⟨p7, cap7, zs.reverse, RZ.reverse, (show Ending.returned (.slice p7 n cap7) = Ending.returned (.slice p7 zs.reverse.length cap7) from by rw [List.length_reverse, HN.out]), by rw [List.length_reverse, HN.out]; exact HFIN.out.2, HFIN.out.1, (HRW.out.rev).on HBQ.out, hq, by rw [List.length_reverse]; exact hlen, ?_⟩
            exact HV.out.trans ((K9.out.trans (HBQ.out.mono K9.out.size)).mono HV.out.size)
          · obtain ⟨k, rfl⟩ : ∃ k, r = k + 1 := ⟨r - 1, by omega⟩
            have hkz : k < zs.length := by have := HN.out; omega
            have hki : (k : Int) < n := by omega
            have hki2 : (0 : Int) ≤ (k : Int) ∧ (k : Int) < n := by omega
            have htk : (k : Int).toNat = k := by omega
            have hwk : IntKind.i64.wrap ((k : Int) - 1) = (k : Int) - 1 := IntWalk.i64_in _ (by omega)
            obtain ⟨b', o', e', -, hcz⟩ := (HRD.out.on HBQ.out) (by have := HN.out; omega)
            cases e'
            have x0 := hcz k hkz 0 _ rfl
            have x1 := hcz k hkz 1 _ rfl
            have x2 := hcz k hkz 2 _ rfl
            have x3 := hcz k hkz 3 _ rfl
            have x4 := hcz k hkz 4 _ rfl
            have x5 := hcz k hkz 5 _ rfl
            simp only [Nat.add_zero] at x0
            obtain ⟨t, ht⟩ : ∃ t, zs[k] = t := ⟨_, rfl⟩
            rw [ht] at x0 x1 x2 x3 x4 x5
            have e2 : zs.reverse.take (n - k) = zs.reverse.take (n - (k + 1)) ++ [t] := by
              have hj : n - (k + 1) < zs.reverse.length := by rw [List.length_reverse]; have := HN.out; omega
              have e3 : n - k = n - (k + 1) + 1 := by omega
              rw [e3, List.take_succ_eq_append_getElem hj, List.getElem_reverse]
              have e4 : zs.length - 1 - (n - (k + 1)) = k := by have := HN.out; omega
              simp only [e4, ht]
            have HE := Lib.hid e2
            have hn8 : n - (k + 1) + 1 ≤ 1073741824 := by omega
            have hb8 : v9.heap.size ≤ wr.heap.size := HBQ.out.size
            clear hcz ht e2 hrn
            rw [show ((k + 1 : Nat) : Int) - 1 = (k : Int) from by omega]
            go_wp2_with (at_builtin; refine wpList_append_R elem_spot _ rfl _ _ rfl v9.heap.size _ (n - (k + 1)) (flat (zs.reverse.take (n - (k + 1)))) rfl (HOW.out.kept (below_new wr _)) (some ⟨wr.heap.size, 0, none⟩) 1 1 t.cells rfl rfl (fun _ => ⟨_, rfl, one_spot wr t⟩) (cells_one t) (cells_noint t) hn8 (by simp; omega) ?_
                         intro vn wn hownn hgrown
                         have hownn := Lib.hid hownn
                         have hgrown := Lib.hid hgrown)
            go_roundg k
            case measure => have := HGR.out; omega
            case rel =>
              refine ⟨k, by go_num, rfl, by omega, ?_, ?_⟩
              · have := hownn.out
                rw [HE.out, flat_app, show n - k = n - (k + 1) + 1 from by omega]
                simpa [flat] using this
              · have bb : Below v9.heap.size v9 (wr.alloc (.cells #[.bool t.n1, .slice t.A1 t.a1.length t.c1, .slice t.D1 t.d1.length t.e1, .bool t.n2, .slice t.A2 t.a2.length t.c2, .slice t.D2 t.d2.length t.e2] 41)) := HBQ.out.alloc HBQ.out.size _
                exact bb.grown hgrown.out bb.size (fun j e => ((HOW.out.kept (below_new wr (.cells #[.bool t.n1, .slice t.A1 t.a1.length t.c1, .slice t.D1 t.d1.length t.e1, .bool t.n2, .slice t.A2 t.a2.length t.c2, .slice t.D2 t.d2.length t.e2] 41))).lt j e).1)
theorem ref17_Cuts (a b : Pt) (l : List Wy) (A : Option Addr) (c : Nat) (w : World) (hll : l.length ≤ 500000) (hL : RdV w w.heap.size A (segRow l)) : Calls Tryz.prog 16 #[segV a b, .slice A l.length c] w (CutsTo a b l w) := by
  by_cases hf : FitP a ∧ FitP b
  · exact ref17_CutsFit a b l A c w hll hL hf
  · exact ref17_CutsNo a b l A c w hf
end Go.Proofs.YtdmoibphidipeaaGreatDoor
/- The law CrossCuts: its walk. -/

namespace Go.Proofs.YtdmoibphidipeaaGreatDoor
open Go.RowKit Num rows

set_option maxRecDepth 100000 in
set_option maxHeartbeats 12800000 in
theorem walk_CrossCuts (a b : Pt) (l : List Wy) (A : Option Addr) (c : Nat) (w : World) (hll : l.length ≤ 349525) (hL : RdV w w.heap.size A (segRow l)) (htab : Tab w) :
    Calls Tryz.prog 4 #[segV a b, .slice A l.length c] w fun e w' => e = .returned (.bool true) ∧ Below w.heap.size w w' := by
  obtain ⟨W, hW, k1, bW⟩ := seg_box w a b
  have cM := fun V (hV : Below W.heap.size W V) => cross_Cuts a b l A c V (by omega) ((hL.on bW).on hV)
  have cN := fun V (hV : Below W.heap.size W V) => ref17_Cuts a b l A c V (by omega) ((hL.on bW).on hV)
  have cL := fun V (h : Tab V) => law17_lives V h
  have CSM := Lib.hid (fun (xs ys : List Sp) (R : List Qp) p q k1 k2 V hx hy rx ry hl => ref17_SameM (M := 17) (by omega) xs ys R p q k1 k2 V hx hy rx ry hl)
  unfold segCells at k1
  have HK := Lib.hid (And.intro k1 bW)
  have HT := Lib.hid htab
  unfold segV at *
  have CM := Lib.hid cM
  have CN := Lib.hid cN
  have CL := Lib.hid cL
  have HS := Lib.hid (show ∀ w', Below W.heap.size W w' → w'.cell? ⟨w.heap.size, 0, none⟩ = some (.int .i64 a.x) ∧ w'.cell? ⟨w.heap.size, 1, none⟩ = some (.int .i64 a.y) ∧ w'.cell? ⟨w.heap.size, 2, none⟩ = some (.int .i64 b.x) ∧ w'.cell? ⟨w.heap.size, 3, none⟩ = some (.int .i64 b.y) from fun w' hb => Box.quad (HK.out.1.below hb HK.out.1.lt))
  have K0 : Below W.heap.size W W.drew := (Below.refl _ _).drew
  have HLL := Lib.hid hll
  clear k1 bW cM cN cL htab hL hll
  go_enter Tryz.func4, Tryz.ntmps4
  go_wp2_with (rw [hW])
  go_region_held3 (fun w' => w'.cell? ⟨w.heap.size, 0, none⟩ = some (.int .i64 a.x) ∧ w'.cell? ⟨w.heap.size, 1, none⟩ = some (.int .i64 a.y) ∧ w'.cell? ⟨w.heap.size, 2, none⟩ = some (.int .i64 b.x) ∧ w'.cell? ⟨w.heap.size, 3, none⟩ = some (.int .i64 b.y))
    (first | (with_reducible exact HS.out _ K0) | (with_reducible exact HS.out _ K1) | (with_reducible exact HS.out _ K2) | (with_reducible exact HS.out _ K3) | (with_reducible exact HS.out _ K6))
    ((first
      | (go_at_call 15; (with_reducible refine Calls.mono (CM.out _ K0) ?_); rintro e v1 ⟨pX, capX, xs, R, rfl, hcX, hrX, hwX, hmX, hlX, b1⟩; have K1 := below_next K0 (Nat.le_refl _) b1; have HX := Lib.hid (And.intro hrX (And.intro hwX hmX)); clear hcX hrX hwX hmX b1)
      | (go_at_call 16; (with_reducible refine Calls.mono (CN.out _ K1) ?_); rintro e v2 ⟨pY, capY, ys, R2, rfl, hcY, hrY, hwY, hmY, hlY, b2⟩; have K2 := below_next K1 (Nat.le_refl _) b2; obtain rfl := HX.out.2.2.unique hmY
         have HY := Lib.hid (And.intro (HX.out.1.on b2) (And.intro hrY (And.intro (HX.out.2.1.on b2) hwY)))
         have hl2 : R.length ≤ 1073741824 := by have := HLL.out; omega
         clear hcY hrY hwY hmY b2)
      | (go_at_call 9; (with_reducible refine Calls.mono (CSM.out xs ys R _ _ _ _ v2 HY.out.1 HY.out.2.1 HY.out.2.2.1 HY.out.2.2.2 hl2) ?_); rintro e v3 ⟨rfl, b3⟩; have K3 := below_next K2 (Nat.le_refl _) b3)
      | (go_at_call 14; (with_reducible refine Calls.mono (CL.out _ (HT.out.on (HK.out.2.trans (K3.mono HK.out.2.size)))) ?_); rintro e v6 ⟨rfl, b6⟩; have K6 := below_next K3 (Nat.le_refl _) b6)))
  have HK6 := Lib.hid K6
  go_wp2_with fail
  go_ret
  exact ⟨rfl, HK.out.2.trans (HK6.out.mono HK.out.2.size)⟩
end Go.Proofs.YtdmoibphidipeaaGreatDoor
