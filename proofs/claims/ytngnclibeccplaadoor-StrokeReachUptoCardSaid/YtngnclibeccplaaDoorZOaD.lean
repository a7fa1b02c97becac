/- What the document's own Parse answers. -/
import Derived.Test.YtngnclibeccplaaDoorZOaB
import Derived.Test.YtngnclibeccplaaDoorZRefY
import Derived.Test.YtngnclibeccplaaDoorZRefX
import Derived.Deep.RegionHeld3
import Derived.Deep.RegionWith
import Derived.Deep.CutRange
import Derived.Lib.ItoaMem
import Derived.Test.YtngnclibeccplaaDoorZOaC
import Derived.Test.YtngnclibeccplaaDoorZWhX
namespace Go.Proofs.YtngnclibeccplaaDoor
open Go.RowKit Num

theorem row_ten (w : World) (t : TypeId) : Row (w.alloc (.cells #[.int .u32 10] t)) w.heap.size t .u32 [10] := Row.new w t .u32 [10]
theorem row_one (w : World) (t : TypeId) (n : Nat) : Row (w.alloc (.cells #[.int .u32 (n : Int)] t)) w.heap.size t .u32 [n] := Row.new w t .u32 [n]
theorem row_ten_at (w : World) (t : TypeId) {g : Nat} (hg : g = w.heap.size) : Row (w.alloc (.cells #[.int .u32 10] t)) g t .u32 [10] := by rw [hg]; exact row_ten w t
theorem row_one_at (w : World) (t : TypeId) (n : Nat) {g : Nat} (hg : g = w.heap.size) : Row (w.alloc (.cells #[.int .u32 (n : Int)] t)) g t .u32 [n] := by rw [hg]; exact row_one w t n
theorem rd_alloc {w : World} {k : IntKind} {A : Option Addr} {xs : List Nat} (h : Rd w (fun g => g < w.heap.size) k A xs) (o : Obj) : Rd (w.alloc o) (fun g => g < (w.alloc o).heap.size) k A xs :=
  (h.keep fun p hp => World.cell?_alloc_lt w o p hp).imp (fun g hg => by simp; omega)
theorem len_ten {xs ys : List Nat} (hx : Dg 4294967296 xs) (hy : Norm 4294967296 ys) (h : val 4294967296 ys = val 4294967296 xs * 10) : ys.length ≤ xs.length + 1 := by
  have := len_mul (b := 4294967296) (by omega) hy.2 hx (y := [10]) (by simp [Dg]) (by rw [h]; simp [val])
  simpa using this
theorem len_pos_dec {bs : List UInt8} {ys : List Nat} {pos : Nat} (hy : Norm 4294967296 ys) (h : val 4294967296 ys = decVal (bs.take pos)) (hall : AllDec (bs.take pos)) : ys.length ≤ pos + 1 := by
  refine Nat.le_trans (hy.2.length_le (b := 4294967296) (n := pos) (by omega) ?_) (Nat.le_succ _)
  rw [h]
  refine Nat.lt_of_lt_of_le (decVal_lt hall) (Nat.le_trans (Nat.pow_le_pow_right (by omega) (show (bs.take pos).length ≤ pos by rw [List.length_take]; omega)) (Nat.pow_le_pow_left (by omega) _))
theorem row_drew {w : World} {g : Nat} {t : TypeId} {k : IntKind} {cs : List Nat} (h : Row w g t k cs) : Row w.drew g t k cs := h

end Go.Proofs.YtngnclibeccplaaDoor
/- What the document's own Text answers. -/

namespace Go.Proofs.YtngnclibeccplaaDoor
open Go.RowKit Num

theorem app_data (b : UInt8) (t : ByteArray) : ((⟨#[b]⟩ : ByteArray) ++ t).data.toList = b :: t.data.toList := by
  rw [ByteArray.data_append, Array.toList_append]; rfl
theorem app_text {b : UInt8} {t : ByteArray} {l : List UInt8} (h : l = b :: t.data.toList) : ((⟨#[b]⟩ : ByteArray) ++ t) = ⟨l.toArray⟩ := by
  apply ByteArray.ext
  rw [ByteArray.data_append, h]
  apply Array.ext'
  simp

end Go.Proofs.YtngnclibeccplaaDoor
/- What the program's own Text answers. -/

namespace Go.Proofs.YtngnclibeccplaaDoor
open Go.RowKit Num

theorem chunk_step {cs : List Nat} {N X : Nat} (h : N = val 1000000000 cs + 1000000000 ^ cs.length * X) :
    N = val 1000000000 (cs ++ [X % 1000000000]) + 1000000000 ^ (cs ++ [X % 1000000000]).length * (X / 1000000000) := by
  rw [val_snoc, List.length_append, List.length_singleton, Nat.pow_succ]
  have e := Nat.div_add_mod X 1000000000
  generalize X % 1000000000 = r at *
  generalize X / 1000000000 = q at *
  generalize 1000000000 ^ cs.length = P at *
  subst e
  rw [h]
  grind
theorem chunk_len {cs : List Nat} {N X n : Nat} (h : N = val 1000000000 cs + 1000000000 ^ cs.length * X) (hX : 0 < X) (hN : N < 4294967296 ^ n) : cs.length ≤ 2 * n := by
  have h1 : 1000000000 ^ cs.length * 1 ≤ 1000000000 ^ cs.length * X := Nat.mul_le_mul_left _ hX
  have h2 : (4294967296 : Nat) ^ n ≤ (1000000000 ^ 2) ^ n := Nat.pow_le_pow_left (by decide) n
  rw [← Nat.pow_mul] at h2
  have h3 : 1000000000 ^ cs.length < 1000000000 ^ (2 * n) := by omega
  exact Nat.le_of_lt ((Nat.pow_lt_pow_iff_right (show 1 < 1000000000 by omega)).1 h3)
theorem dec_chunk {cs : List Nat} {i : Nat} (hd : Dg 1000000000 cs) (hi : i < cs.length) (hM : 0 < val 1000000000 (cs.drop (i + 1))) :
    Lib.decDigits (val 1000000000 (cs.drop i)) = Lib.decDigits (val 1000000000 (cs.drop (i + 1))) ++ (List.replicate (9 - (Lib.decDigits cs[i]).length) 48 ++ Lib.decDigits cs[i]) := by
  have h := val_drop_succ (b := 1000000000) hi
  have hc := hd.get hi
  rw [h, ← pad_eq 9 cs[i] hc (by omega), ← dec_split 9 _ cs[i] hM hc]
  congr 1
  omega
theorem val_drop_le (b i : Nat) (hb : 0 < b) (cs : List Nat) : val b (cs.drop i) ≤ val b cs := by
  rcases Nat.lt_or_ge i cs.length with h | h
  · rw [val_split (b := b) (k := i) (xs := cs) (by omega)]
    have : 1 * val b (cs.drop i) ≤ b ^ i * val b (cs.drop i) := Nat.mul_le_mul_right _ (Nat.pow_pos hb)
    omega
  · rw [List.drop_eq_nil_of_le h]; exact Nat.zero_le _
theorem own_far {w w' : World} {base : Nat} {t : TypeId} {k : IntKind} {v : Value} {xs : List Nat} {g : Nat} (h : Own w base t k v xs) (hg : w.grownBy w' (some g)) (hlt : g < base) : Own w' base t k v xs := by
  refine ⟨h.1, ?_⟩
  rcases h.2 with h2 | ⟨g', cap, cur, hv, hb, hh, r⟩
  · exact .inl h2
  · refine .inr ⟨g', cap, cur, hv, hb, ?_, r⟩
    have hl : g' < w.heap.size := by
      rcases Nat.lt_or_ge g' w.heap.size with hl | hge
      · exact hl
      · rw [Array.getElem?_eq_none hge] at hh; cases hh
    rw [hg.block g' hl (fun e => by injection e with e; omega)]; exact hh
theorem owns_below {w w' : World} {base B n : Nat} {t : TypeId} {v : Value} {xs : List Value} (h : w.ownsRow base t 1 v n xs) (hb : Below B w w') (hB : w.heap.size ≤ B) : w'.ownsRow base t 1 v n xs := by
  refine ⟨h.1, ?_⟩
  rcases h.2 with h2 | ⟨g', cap, cur, hv, hb', hh, r⟩
  · exact .inl h2
  · refine .inr ⟨g', cap, cur, hv, hb', ?_, r⟩
    have hl : g' < w.heap.size := by
      rcases Nat.lt_or_ge g' w.heap.size with hl | hge
      · exact hl
      · rw [Array.getElem?_eq_none hge] at hh; cases hh
    rw [hb.block g' (by omega)]; exact hh
theorem noughts_cells (k : Nat) : Lib.strCells (ByteArray.extract ⟨#[48, 48, 48, 48, 48, 48, 48, 48, 48]⟩ k 9) = Lib.byteCells (List.replicate (9 - k) 48) := by
  rw [Lib.strCells_eq, extract_data]
  congr 1
  show ((List.replicate 9 (48 : UInt8)).drop k).take (9 - k) = _
  rw [List.drop_replicate, List.take_replicate, Nat.min_self]

theorem info_u8 : (Tryd.prog.info? 5).map (fun i => (i.zero, i.size, i.bytes)) = some (some (.int .u8 0), 1, 1) := by kernel_rfl
end Go.Proofs.YtngnclibeccplaaDoor
/- Whole numbers: what Div answers. -/

namespace Go.Proofs.YtngnclibeccplaaDoor
open Go.RowKit Num

theorem euclid {N D Q R : Int} (h : R + D * Q = N) (h0 : 0 ≤ R) (h1 : R < D.natAbs) : N / D = Q ∧ N % D = R := by
  have pos : ∀ {D Q : Int}, 0 < D → R + D * Q = N → R < D → N / D = Q ∧ N % D = R := fun {D Q} hD h h1 => (Int.ediv_emod_unique hD).2 ⟨h, h0, h1⟩
  rcases Int.lt_trichotomy D 0 with hD | hD | hD
  · have := pos (D := -D) (Q := -Q) (by omega) (by rw [Int.neg_mul_neg]; exact h) (by omega)
    rw [Int.ediv_neg, Int.emod_neg] at this
    exact ⟨by omega, this.2⟩
  · subst hD; simp at h1; omega
  · exact pos hD h (by omega)

theorem quo_flat (n1 n2 : Bool) {N D : Int} {n d p m : Nat} (hN : N = if n1 then -(n : Int) else n) (hD : D = if n2 then -(d : Int) else d) (hk : d * p + m = n) (hm : m < d) (hx : n1 = true → m = 0) :
    N / D = (if (n1 != n2) then -(p : Int) else p) ∧ N % D = m := by
  have hk' : (d : Int) * p + m = n := by exact_mod_cast hk
  refine euclid ?_ (by omega) (by cases n2 <;> simp at hD <;> omega)
  cases n1 <;> cases n2 <;> simp at hN hD hx <;> subst hN hD
  · show (m : Int) + (d : Int) * (p : Int) = n; omega
  · show (m : Int) + -(d : Int) * -(p : Int) = n; rw [Int.neg_mul_neg]; omega
  · show (m : Int) + (d : Int) * -(p : Int) = -n; rw [Int.mul_neg]; omega
  · show (m : Int) + -(d : Int) * (p : Int) = -n; rw [Int.neg_mul]; omega
theorem quo_up (n2 : Bool) {N D : Int} {n d p m : Nat} (hN : N = -(n : Int)) (hD : D = if n2 then -(d : Int) else d) (hk : d * p + m = n) (h0 : 0 < m) (hm : m < d) :
    N / D = (if (true != n2) then -((p + 1 : Nat) : Int) else ((p + 1 : Nat) : Int)) ∧ N % D = ((d - m : Nat) : Int) := by
  have hk' : (d : Int) * p + m = n := by exact_mod_cast hk
  have e : (d : Int) * ((p + 1 : Nat) : Int) = d * p + d := by rw [Int.natCast_add, Int.mul_add]; simp
  refine euclid ?_ (by omega) (by cases n2 <;> simp at hD <;> omega)
  cases n2
  · simp only [Bool.false_eq_true, if_false] at hD
    subst hN hD
    simp only [Bool.bne_false, if_true]
    rw [Int.mul_neg, e]; omega
  · simp only [if_true] at hD
    subst hN hD
    simp only [bne_self_eq_false, Bool.false_eq_true, if_false]
    rw [Int.neg_mul, e]; omega

/-- two arguments in their boxes, and two results' places -/
def Four (w : World) (g : Nat) (n1 n2 : Bool) (v1 v2 : Value) : Prop :=
  w.heap[g]? = some (.cells #[.bool n1, v1] 72 (0, 0)) ∧ w.heap[g + 1]? = some (.cells #[.bool n2, v2] 72 (0, 0)) ∧ w.heap[g + 1 + 1]? = some (.cells #[.bool false, .slice none 0 0] 72 (0, 0)) ∧ w.heap[g + 1 + 1 + 1]? = some (.cells #[.bool false, .slice none 0 0] 72 (0, 0)) ∧ g + 4 ≤ w.heap.size
theorem Four.new (w : World) (n1 n2 : Bool) (v1 v2 : Value) : Four ((((w.alloc (.cells #[.bool n1, v1] 72)).alloc (.cells #[.bool n2, v2] 72)).alloc (.cells #[.bool false, .slice none 0 0] 72)).alloc (.cells #[.bool false, .slice none 0 0] 72)) w.heap.size n1 n2 v1 v2 := by
  have s1 : ∀ (u : World) (o : Obj), (u.alloc o).heap.size = u.heap.size + 1 := fun u o => by simp
  have e : ∀ (u : World) (o : Obj) (k : Nat), k = u.heap.size → (u.alloc o).heap[k]? = some o := fun u o k hk => by rw [hk]; exact heap_alloc_new u o
  refine ⟨?_, ?_, ?_, ?_, by rw [s1, s1, s1, s1]; omega⟩
  · rw [Below.heap_alloc _ _ _ (by rw [s1, s1, s1]; omega), Below.heap_alloc _ _ _ (by rw [s1, s1]; omega), Below.heap_alloc _ _ _ (by rw [s1]; omega)]
    exact e _ _ _ rfl
  · rw [Below.heap_alloc _ _ _ (by rw [s1, s1, s1]; omega), Below.heap_alloc _ _ _ (by rw [s1, s1]; omega)]
    exact e _ _ _ (by rw [s1])
  · rw [Below.heap_alloc _ _ _ (by rw [s1, s1, s1]; omega)]
    exact e _ _ _ (by rw [s1, s1])
  · exact e _ _ _ (by rw [s1, s1, s1])
theorem Four.on {w w' : World} {g : Nat} {n1 n2 : Bool} {v1 v2 : Value} (h : Four w g n1 n2 v1 v2) (hb : Below w.heap.size w w') : Four w' g n1 n2 v1 v2 := by
  obtain ⟨h0, h1, h2, h3, h4⟩ := h
  exact ⟨(hb.block _ (by omega)).trans h0, (hb.block _ (by omega)).trans h1, (hb.block _ (by omega)).trans h2, (hb.block _ (by omega)).trans h3, Nat.le_trans h4 hb.size⟩
theorem Four.on_low {w w' : World} {g B : Nat} {n1 n2 : Bool} {v1 v2 : Value} (h : Four w g n1 n2 v1 v2) (hB : g + 4 ≤ B) (hb : Below B w w') : Four w' g n1 n2 v1 v2 := by
  obtain ⟨h0, h1, h2, h3, h4⟩ := h
  exact ⟨(hb.block _ (by omega)).trans h0, (hb.block _ (by omega)).trans h1, (hb.block _ (by omega)).trans h2, (hb.block _ (by omega)).trans h3, Nat.le_trans h4 hb.size⟩
theorem Four.boxes {w : World} {g : Nat} {n1 n2 : Bool} {v1 v2 : Value} (h : Four w g n1 n2 v1 v2) :
    w.cell? ⟨g, 0, none⟩ = some (.bool n1) ∧ w.cell? ⟨g, 1, none⟩ = some v1 ∧ w.cell? ⟨g + 1, 0, none⟩ = some (.bool n2) ∧ w.cell? ⟨g + 1, 1, none⟩ = some v2 := by
  obtain ⟨h0, h1, h2, h3, h4⟩ := h
  exact ⟨by rw [cell_of_row _ _ _ _ _ _ h0]; rfl, by rw [cell_of_row _ _ _ _ _ _ h0]; rfl, by rw [cell_of_row _ _ _ _ _ _ h1]; rfl, by rw [cell_of_row _ _ _ _ _ _ h1]; rfl⟩
theorem Four.place {w : World} {g : Nat} {n1 n2 : Bool} {v1 v2 : Value} (h : Four w g n1 n2 v1 v2) :
    (w.cell? ⟨g + 1 + 1, 0, none⟩ = some (.bool false) ∧ w.cell? ⟨g + 1 + 1, 1, none⟩ = some (.slice none 0 0) ∧ w.frozen? ⟨g + 1 + 1, 0, none⟩ = false ∧ w.frozen? ⟨g + 1 + 1, 1, none⟩ = false) ∧
    (w.cell? ⟨g + 1 + 1 + 1, 0, none⟩ = some (.bool false) ∧ w.cell? ⟨g + 1 + 1 + 1, 1, none⟩ = some (.slice none 0 0) ∧ w.frozen? ⟨g + 1 + 1 + 1, 0, none⟩ = false ∧ w.frozen? ⟨g + 1 + 1 + 1, 1, none⟩ = false) := by
  obtain ⟨h0, h1, h2, h3, h4⟩ := h
  exact ⟨⟨by rw [cell_of_row _ _ _ _ _ _ h2]; rfl, by rw [cell_of_row _ _ _ _ _ _ h2]; rfl, frozen_of_row _ _ _ _ _ h2, frozen_of_row _ _ _ _ _ h2⟩, ⟨by rw [cell_of_row _ _ _ _ _ _ h3]; rfl, by rw [cell_of_row _ _ _ _ _ _ h3]; rfl, frozen_of_row _ _ _ _ _ h3, frozen_of_row _ _ _ _ _ h3⟩⟩

/-- both results are stored -/
theorem Four.stored {w : World} {g : Nat} {n1 n2 : Bool} {v1 v2 : Value} (h : Four w g n1 n2 v1 v2) (u v x y : Value) : ∃ W', (((w.setCell ⟨g + 1 + 1, 0, none⟩ u).setCell ⟨g + 1 + 1, 1, none⟩ v).setCell ⟨g + 1 + 1 + 1, 0, none⟩ x).setCell ⟨g + 1 + 1 + 1, 1, none⟩ y = W' ∧
    W'.cell? ⟨g + 1 + 1, 0, none⟩ = some u ∧ W'.cell? ⟨g + 1 + 1, 1, none⟩ = some v ∧ W'.cell? ⟨g + 1 + 1 + 1, 0, none⟩ = some x ∧ W'.cell? ⟨g + 1 + 1 + 1, 1, none⟩ = some y ∧ (∀ B, B ≤ g → Below B w W') ∧
    (∀ k A xs, Rd w (fun b => b < w.heap.size) k A xs → Rd W' (fun b => b < W'.heap.size) k A xs) := by
  obtain ⟨h0, h1, h2, h3, h4⟩ := h
  obtain ⟨e0, e1, e2, e3⟩ := stored_whole h2 u v
  have h3' := h3
  rw [← Below.heap_setCell w ⟨g + 1 + 1, 0, none⟩ u (g + 1 + 1 + 1) (by show g + 1 + 1 + 1 ≠ g + 1 + 1; omega), ← Below.heap_setCell _ ⟨g + 1 + 1, 1, none⟩ v (g + 1 + 1 + 1) (by show g + 1 + 1 + 1 ≠ g + 1 + 1; omega)] at h3'
  obtain ⟨d0, d1, d2, d3⟩ := stored_whole h3' x y
  have h2' := e2
  rw [← Below.heap_setCell _ ⟨g + 1 + 1 + 1, 0, none⟩ x (g + 1 + 1) (by show g + 1 + 1 ≠ g + 1 + 1 + 1; omega), ← Below.heap_setCell _ ⟨g + 1 + 1 + 1, 1, none⟩ y (g + 1 + 1) (by show g + 1 + 1 ≠ g + 1 + 1 + 1; omega)] at h2'
  exact ⟨_, rfl, by rw [cell_of_row _ _ _ _ _ _ h2']; rfl, by rw [cell_of_row _ _ _ _ _ _ h2']; rfl, d0, d1, fun B hB => (e3 B (by omega)).trans (d3 B (by omega)), fun k A xs hr => (hr.stored h2 u v).stored h3' x y⟩

/-- a quotient and what is left, never below 0; zeros and false, where there is nothing to divide by. -/
def GivesWQR (N D : Int) (w : World) (e : Ending) (w' : World) : Prop :=
  ∃ A q c A' r c', e = .returned (.tuple #[.agg #[.bool (decide (N / D < 0)), .slice A q.length c], .agg #[.bool false, .slice A' r.length c'], .bool (decide (D ≠ 0))]) ∧ q.length ≤ c ∧ r.length ≤ c' ∧ Norm 4294967296 q ∧ Norm 4294967296 r ∧
    val 4294967296 q = (N / D).natAbs ∧ val 4294967296 r = (if D = 0 then 0 else N % D).natAbs ∧ Rd w' (fun g => g < w'.heap.size) .u32 A q ∧ Rd w' (fun g => g < w'.heap.size) .u32 A' r ∧ Below w.heap.size w w'

end Go.Proofs.YtngnclibeccplaaDoor
/- Whole numbers: what Of, Int, Text answer. -/

namespace Go.Proofs.YtngnclibeccplaaDoor
open Go.RowKit Num

theorem wrap_back (m : Nat) (h : m < 18446744073709551616) : IntKind.u64.wrap (-IntKind.u64.wrap (-(m : Int))) = m := by
  simp [IntKind.wrap, IntKind.bits, IntKind.signed]
  omega

set_option maxRecDepth 10000 in
set_option maxHeartbeats 1600000 in
theorem whole_Of (n : Int) (hn1 : -9223372036854775808 ≤ n) (hn2 : n ≤ 9223372036854775807) (w : World) :
    Calls Tryd.prog 61 #[.int .i64 n] w (GivesW n w) := by
  by_cases hneg : n < 0
  · obtain ⟨m, rfl⟩ : ∃ m : Nat, n = -(m : Int) := ⟨(-n).toNat, by omega⟩
    go_enter Tryd.func61, Tryd.ntmps61
    go_wp2_with fail
    rw [wrap_back m (by omega)]
    have B0 := below_new w (.cells #[.bool false, .slice none 0 0] 72)
    refine (nat_Of m (by omega) _).mono ?_
    rintro e w1 ⟨A1, xs, c1, rfl, hc1, hn1, hv1, hr1, hb1⟩
    have HN := Lib.hid hn1
    have HV := Lib.hid (show wv true xs = -(m : Int) by rw [wv_true, hv1])
    clear hn1 hv1
    go_wp2_with fail
    refine (whole_own true xs A1 c1 (-(m : Int)) _ HN.out HV.out).mono ?_
    rintro e w2 ⟨rfl, hb2⟩
    have b2 := hb1.trans (hb2.mono hb1.size)
    obtain ⟨f0, f1, f2, f3⟩ := new_whole w b2
    obtain ⟨d, hd⟩ : ∃ d, decide (-(m : Int) < 0) = d := ⟨_, rfl⟩
    have HD := Lib.hid hd
    rw [hd]
    clear hd
    go_wp2_with fail
    obtain ⟨r0, r1, r2, r3⟩ := stored_whole f0 (.bool d) (.slice A1 xs.length c1)
    refine bodyPost_ret (v := .agg #[.bool d, .slice A1 xs.length c1]) (by simp [results, Tryd.results61, go_sem, r0, r1]) rfl ?_
    rw [← HD.out]
    exact gives_stored f0 (B0.trans (b2.mono B0.size)) (Nat.le_refl _) hc1 HN.out (abs_of HV.out) (hr1.on hb2) _ _
  · obtain ⟨m, rfl⟩ : ∃ m : Nat, n = (m : Int) := ⟨n.toNat, by omega⟩
    go_enter Tryd.func61, Tryd.ntmps61
    go_wp2_with fail
    have B0 := below_new w (.cells #[.bool false, .slice none 0 0] 72)
    refine (nat_Of m (by omega) _).mono ?_
    rintro e w1 ⟨A1, xs, c1, rfl, hc1, hn1, hv1, hr1, hb1⟩
    have HN := Lib.hid hn1
    have HV := Lib.hid (show wv false xs = (m : Int) by rw [wv_false, hv1])
    clear hn1 hv1
    go_wp2_with fail
    refine (whole_own false xs A1 c1 (m : Int) _ HN.out HV.out).mono ?_
    rintro e w2 ⟨rfl, hb2⟩
    have b2 := hb1.trans (hb2.mono hb1.size)
    obtain ⟨f0, f1, f2, f3⟩ := new_whole w b2
    obtain ⟨d, hd⟩ : ∃ d, decide ((m : Int) < 0) = d := ⟨_, rfl⟩
    have HD := Lib.hid hd
    rw [hd]
    clear hd
    go_wp2_with fail
    obtain ⟨r0, r1, r2, r3⟩ := stored_whole f0 (.bool d) (.slice A1 xs.length c1)
    refine bodyPost_ret (v := .agg #[.bool d, .slice A1 xs.length c1]) (by simp [results, Tryd.results61, go_sem, r0, r1]) rfl ?_
    rw [← HD.out]
    exact gives_stored f0 (B0.trans (b2.mono B0.size)) (Nat.le_refl _) hc1 HN.out (abs_of HV.out) (hr1.on hb2) _ _
end Go.Proofs.YtngnclibeccplaaDoor
/- Whole numbers: what Int answers. -/

namespace Go.Proofs.YtngnclibeccplaaDoor
open Go.RowKit Num

/-- is it an int? -/
def isInt (N : Int) : Bool := decide (-9223372036854775808 ≤ N) && decide (N ≤ 9223372036854775807)
def intOr0 (N : Int) : Int := if isInt N then N else 0
theorem isInt_yes {N : Int} (h : -9223372036854775808 ≤ N) (h' : N ≤ 9223372036854775807) : isInt N = true ∧ intOr0 N = N := by
  have e : isInt N = true := by simp [isInt, h, h']
  exact ⟨e, by rw [intOr0, e]; rfl⟩
theorem isInt_no {N : Int} (h : N < -9223372036854775808 ∨ 9223372036854775807 < N) : isInt N = false ∧ intOr0 N = 0 := by
  have e : isInt N = false := by
    unfold isInt
    rcases h with h | h
    · rw [decide_eq_false (by omega)]; rfl
    · rw [decide_eq_false (p := N ≤ 9223372036854775807) (by omega)]; simp
  exact ⟨e, by rw [intOr0, e]; rfl⟩
theorem wrap_in (m : Nat) (h : m ≤ 9223372036854775807) : IntKind.i64.wrap (m : Int) = m := IntWalk.i64_in _ (by omega)
theorem wrap_neg (m : Nat) (h : m ≤ 9223372036854775808) : IntKind.i64.wrap (IntKind.u64.wrap (-(m : Int))) = -(m : Int) := by
  rw [IntKind.wrap_i64]
  simp [IntKind.wrap, IntKind.bits, IntKind.signed]
  omega
/-- what Int hands back -/
def IntIs (N : Int) (w : World) (e : Ending) (w' : World) : Prop := e = .returned (.tuple #[.int .i64 (intOr0 N), .bool (isInt N)]) ∧ Below w.heap.size w w'
theorem intIs_yes {N : Int} {w w' : World} (h : -9223372036854775808 ≤ N) (h' : N ≤ 9223372036854775807) (hb : Below w.heap.size w w') : IntIs N w (.returned (.tuple #[.int .i64 N, .bool true])) w' := by
  unfold IntIs
  rw [(isInt_yes h h').1, (isInt_yes h h').2]
  exact ⟨rfl, hb⟩
theorem intIs_no {N : Int} {w w' : World} (h : N < -9223372036854775808 ∨ 9223372036854775807 < N) (hb : Below w.heap.size w w') : IntIs N w (.returned (.tuple #[.int .i64 0, .bool false])) w' := by
  unfold IntIs
  rw [(isInt_no h).1, (isInt_no h).2]
  exact ⟨rfl, hb⟩

theorem wv_below {n1 : Bool} {a : List Nat} (h : wv n1 a < 0) : wv n1 a = -(val 4294967296 a : Int) := by
  have := wv_abs n1 a; omega
theorem wv_above {n1 : Bool} {a : List Nat} (h : ¬ wv n1 a < 0) : wv n1 a = (val 4294967296 a : Int) := by
  have := wv_abs n1 a; omega

end Go.Proofs.YtngnclibeccplaaDoor
/- Whole numbers: what Text answers. -/

namespace Go.Proofs.YtngnclibeccplaaDoor
open Go.RowKit Num

/-- a whole number's text -/
def wtext (N : Int) : List UInt8 := if N < 0 then 45 :: Lib.decDigits N.natAbs else Lib.decDigits N.natAbs

end Go.Proofs.YtngnclibeccplaaDoor
