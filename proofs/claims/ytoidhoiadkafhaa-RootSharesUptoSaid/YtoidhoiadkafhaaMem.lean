/- Words on memory: a slice of integers that reads as a list of digits; a block that is known whole; what a call leaves as it was. -/
import Derived.Test.YtoidhoiadkafhaaNum
import Derived.WalkKit
import Derived.WalkSpells
import Derived.Deep.Draws
import Derived.Laws.Rows
import Derived.Deep.AppendLies
import Derived.Laws.CopyOwn
namespace Go.Proofs.Ytoidhoiadkafhaa.Num
open Go.RowKit

theorem block_of_add (a : Addr) (n : Nat) : (a.add n).block = a.block := by unfold Addr.add; split <;> rfl
theorem add_of_add (a : Addr) (i j : Nat) : (a.add i).add j = a.add (i + j) := by
  unfold Addr.add
  by_cases hi : i = 0 <;> by_cases hj : j = 0 <;> simp [hi, hj, Nat.add_assoc]
theorem add_mk (g o j : Nat) : (⟨g, o, none⟩ : Addr).add j = ⟨g, o + j, none⟩ := by unfold Addr.add; split <;> simp_all

/-- the cells of digits -/
def cells (k : IntKind) (xs : List Nat) : List Value := xs.map fun n : Nat => Value.int k (n : Int)
theorem length_cells (k : IntKind) (xs : List Nat) : (cells k xs).length = xs.length := by simp [cells]
theorem get_cells {k : IntKind} {xs : List Nat} {j : Nat} (h : j < xs.length) : (cells k xs)[j]? = some (.int k (xs[j] : Int)) := by simp [cells, h]
theorem one_cells (k : IntKind) (xs : List Nat) : ∀ u ∈ cells k xs, u.oneCell' = true := by
  intro u hu
  obtain ⟨_, _, rfl⟩ := List.mem_map.1 hu
  rfl
theorem cells_append (k : IntKind) (xs ys : List Nat) : cells k (xs ++ ys) = cells k xs ++ cells k ys := by simp [cells]
theorem cells_zeros (k : IntKind) (n : Nat) : (madeCells #[.int k 0] n).toList = cells k (List.replicate n 0) := by
  rw [toList_madeCells_one]; simp [cells]

/-- THE SLICE WITH ADDRESS A READS AS xs, and lies in a block of which S holds. -/
def Rd (w : World) (S : Nat → Prop) (k : IntKind) (A : Option Addr) (xs : List Nat) : Prop :=
  0 < xs.length → ∃ b o, A = some ⟨b, o, none⟩ ∧ S b ∧ ∀ (j : Nat) (h : j < xs.length), w.cell? ⟨b, o + j, none⟩ = some (.int k (xs[j] : Int))

section
variable {w w' : World} {S S' : Nat → Prop} {k : IntKind} {A : Option Addr} {xs : List Nat}
theorem Rd.nil : Rd w S k A [] := fun h => absurd h (by simp)
theorem Rd.at_ (h : Rd w S k A xs) {j : Nat} (hj : j < xs.length) : ∃ b o, A = some ⟨b, o, none⟩ ∧ S b ∧ w.cell? ⟨b, o + j, none⟩ = some (.int k (xs[j] : Int)) := by
  obtain ⟨b, o, rfl, hb, hc⟩ := h (by omega)
  exact ⟨b, o, rfl, hb, hc j hj⟩
theorem Rd.keep (h : Rd w S k A xs) (hk : ∀ p : Addr, S p.block → w'.cell? p = w.cell? p) : Rd w' S k A xs := fun hn => by
  obtain ⟨b, o, e, hb, hc⟩ := h hn
  exact ⟨b, o, e, hb, fun j hj => (hk _ hb).trans (hc j hj)⟩
theorem Rd.imp (h : Rd w S k A xs) (hS : ∀ b, S b → S' b) : Rd w S' k A xs := fun hn => by
  obtain ⟨b, o, e, hb, hc⟩ := h hn
  exact ⟨b, o, e, hS _ hb, hc⟩
theorem Rd.below {B : Nat} (h : Rd w S k A xs) (hb : Below B w w') (hS : ∀ b, S b → b < B) : Rd w' S k A xs := h.keep fun _ hp => hb.cell (hS _ hp)
theorem Rd.grown {row : Option Nat} (h : Rd w S k A xs) (hg : w.grownBy w' row) (hS : ∀ b, S b → b < w.heap.size ∧ some b ≠ row) : Rd w' S k A xs :=
  h.keep fun p hp => World.cell?_of_block (hg.block p.block (hS _ hp).1 (hS _ hp).2)
theorem Rd.drewN (h : Rd w S k A xs) (n : Nat) : Rd (w.drewN n) S k A xs := h
theorem Rd.take (h : Rd w S k A xs) (n : Nat) : Rd w S k A (xs.take n) := fun hn => by
  have hl : (xs.take n).length ≤ xs.length := by simp; omega
  obtain ⟨b, o, e, hb, hc⟩ := h (by omega)
  exact ⟨b, o, e, hb, fun j hj => by rw [hc j (by omega), List.getElem_take]⟩
theorem Rd.drop (h : Rd w S k A xs) {n cap : Nat} (hc : xs.length ≤ cap) : Rd w S k (if cap = n then A else A.map (·.add n)) (xs.drop n) := fun hn => by
  have hl : (xs.drop n).length = xs.length - n := by simp
  obtain ⟨b, o, rfl, hb, hcell⟩ := h (by omega)
  rw [if_neg (by omega)]
  refine ⟨b, o + n, by simp [add_mk], hb, fun j hj => ?_⟩
  rw [Nat.add_assoc, hcell (n + j) (by omega), List.getElem_drop]
theorem Rd.below_size (h : Rd w S k A xs) : Rd w (fun b => S b ∧ b < w.heap.size) k A xs := fun hn => by
  obtain ⟨b, o, e, hb, hc⟩ := h hn
  refine ⟨b, o, e, ⟨hb, ?_⟩, hc⟩
  have h0 := hc 0 hn
  rcases Nat.lt_or_ge b w.heap.size with hlt | hge
  · exact hlt
  · have : w.cell? ⟨b, o + 0, none⟩ = none := by
      simp only [World.cell?, Array.getElem?_eq_none hge]
    rw [this] at h0; cases h0
theorem Rd.on (h : Rd w (fun g => g < w.heap.size) k A xs) (hb : Below w.heap.size w w') : Rd w' (fun g => g < w'.heap.size) k A xs :=
  (h.below hb (fun _ hg => hg)).imp fun _ hg => Nat.lt_of_lt_of_le hg hb.size
end

/-- BLOCK g IS JUST THE CELLS OF cs. -/
def Row (w : World) (g : Nat) (t : TypeId) (k : IntKind) (cs : List Nat) : Prop := w.heap[g]? = some (.cells (cells k cs).toArray t (0, 0))
section
variable {w w' : World} {g : Nat} {t : TypeId} {k : IntKind} {cs : List Nat}
theorem Row.lt (h : Row w g t k cs) : g < w.heap.size := by
  rcases Nat.lt_or_ge g w.heap.size with hlt | hge
  · exact hlt
  · unfold Row at h; rw [Array.getElem?_eq_none hge] at h; cases h
theorem Row.cell (h : Row w g t k cs) {i : Nat} (hi : i < cs.length) : w.cell? ⟨g, i, none⟩ = some (.int k (cs[i] : Int)) := by
  rw [cell_of_row w g i _ t (0, 0) h]
  simpa using get_cells hi
theorem Row.frozen (h : Row w g t k cs) (i : Nat) : w.frozen? ⟨g, i, none⟩ = false := frozen_of_row w g i _ t h
theorem Row.rd (h : Row w g t k cs) {S : Nat → Prop} (hS : S g) {off n : Nat} (hn : off + n ≤ cs.length) : Rd w S k (some ⟨g, off, none⟩) ((cs.drop off).take n) := fun _ =>
  ⟨_, _, rfl, hS, fun j hj => by
    have hj' : j < min n (cs.length - off) := by simpa using hj
    rw [h.cell (i := off + j) (by omega), List.getElem_take, List.getElem_drop]⟩
theorem Row.rd_all (h : Row w g t k cs) {S : Nat → Prop} (hS : S g) : Rd w S k (some ⟨g, 0, none⟩) cs := by
  have := h.rd hS (off := 0) (n := cs.length) (by omega)
  simpa using this
theorem Row.new (w : World) (t : TypeId) (k : IntKind) (cs : List Nat) : Row (w.alloc (.cells (cells k cs).toArray t)) w.heap.size t k cs := heap_alloc_new w _
theorem Row.at_new (w : World) (t : TypeId) (k : IntKind) (cs : List Nat) {g : Nat} (hg : g = w.heap.size) : Row (w.alloc (.cells (cells k cs).toArray t)) g t k cs := by rw [hg]; exact Row.new w t k cs
theorem Row.made (w : World) (t : TypeId) (k : IntKind) (n : Nat) : Row (w.alloc (.cells (madeCells #[.int k 0] n) t)) w.heap.size t k (List.replicate n 0) := by
  have := heap_alloc_new w (.cells (madeCells #[.int k 0] n) t)
  unfold Row
  rw [this, ← cells_zeros]
theorem Row.drewN (h : Row w g t k cs) (n : Nat) : Row (w.drewN n) g t k cs := h
theorem Row.set (h : Row w g t k cs) (i v : Nat) : Row (w.setCell ⟨g, i, none⟩ (.int k (v : Int))) g t k (cs.set i v) := by
  have := heap_setCell_same w g i _ t (.int k (v : Int)) h
  unfold Row
  rw [this]
  congr 2
  simp [cells, List.map_set]
theorem Row.below {B : Nat} (h : Row w g t k cs) (hb : Below B w w') (hg : g < B) : Row w' g t k cs := (hb.block g hg).trans h
theorem Row.grown {row : Option Nat} (h : Row w g t k cs) (hb : w.grownBy w' row) (hg : some g ≠ row) : Row w' g t k cs := (hb.block g h.lt hg).trans h
theorem Row.alloc (h : Row w g t k cs) (o : Obj) : Row (w.alloc o) g t k cs := (Below.heap_alloc w o g h.lt).trans h
theorem Row.far (h : Row w g t k cs) {p : Addr} (hp : g ≠ p.block) (u : Value) : Row (w.setCell p u) g t k cs := (Below.heap_setCell w p u g hp).trans h
end

theorem grown_setCell {w0 w : World} {g : Nat} (h : w0.grownBy w (some g)) (i : Nat) (u : Value) : w0.grownBy (w.setCell ⟨g, i, none⟩ u) (some g) :=
  ⟨h.os, h.tape, h.output, by simpa [World.setCell] using h.size, fun i hi hne => (Below.heap_setCell w _ u i (by rintro rfl; exact hne rfl)).trans (h.block i hi hne)⟩
theorem grown_drewN {a w : World} {row : Option Nat} (h : a.grownBy w row) (n : Nat) : a.grownBy (w.drewN n) row := ⟨h.os, h.tape, h.output, h.size, h.block⟩
theorem grown_trans {a b c : World} {row : Option Nat} (h : a.grownBy b row) (k : b.grownBy c row) : a.grownBy c row :=
  ⟨k.os.trans h.os, k.tape.trans h.tape, k.output.trans h.output, Nat.le_trans h.size k.size, fun i hi hne => (k.block i (Nat.lt_of_lt_of_le hi h.size) hne).trans (h.block i hi hne)⟩
theorem grown_below {a b c : World} {row : Option Nat} (h : a.grownBy b row) (k : Below b.heap.size b c) : a.grownBy c row :=
  ⟨k.os.trans h.os, k.tape.trans h.tape, k.output.trans h.output, Nat.le_trans h.size k.size, fun i hi hne => (k.block i (Nat.lt_of_lt_of_le hi h.size)).trans (h.block i hi hne)⟩
theorem below_drewN {B : Nat} {a w : World} (h : Below B a w) (n : Nat) : Below B a (w.drewN n) := ⟨h.os, h.tape, h.output, h.size, h.block⟩
theorem below_grown {B g : Nat} {a b c : World} (h : Below B a b) (k : b.grownBy c (some g)) (hB : B ≤ b.heap.size) (hg : B ≤ g) : Below B a c := h.grown k hB (fun _ e => by injection e with e; omega)

/-- owned by append: it reads as xs. -/
theorem Rd.of_own {w : World} {base : Nat} {e : TypeId} {k : IntKind} {A : Option Addr} {c : Nat} {xs : List Nat} (h : w.ownsRow base e 1 (.slice A xs.length c) xs.length (cells k xs)) : Rd w (fun b => base ≤ b ∧ b < w.heap.size) k A xs := by
  intro hn
  obtain ⟨g, cap, hv, hb, hlt⟩ := h.form hn
  have hA : A = some ⟨g, 0, none⟩ := by injection hv
  subst hA
  refine ⟨_, _, rfl, ⟨hb, hlt⟩, fun j hj => ?_⟩
  have := h.cells (g := g) rfl j _ (get_cells hj)
  rwa [add_mk] at this

/-- DIGITS THAT THE CALL OWNS: gathered by append. -/
def Own (w : World) (base : Nat) (t : TypeId) (k : IntKind) (v : Value) (xs : List Nat) : Prop := w.ownsRow base t 1 v xs.length (cells k xs)
section
variable {w w' : World} {base : Nat} {t : TypeId} {k : IntKind} {v : Value} {xs : List Nat}
theorem Own.nil (w : World) (base : Nat) (t : TypeId) (k : IntKind) : Own w base t k (.slice none 0 0) [] := World.ownsRow_nil w base t 1
theorem Own.alloc (h : Own w base t k v xs) (o : Obj) : Own (w.alloc o) base t k v xs := World.ownsRow.alloc h o
theorem Own.drew (h : Own w base t k v xs) : Own w.drew base t k v xs := h
theorem Own.drewN (h : Own w base t k v xs) (n : Nat) : Own (w.drewN n) base t k v xs := h
theorem Own.form (h : Own w base t k v xs) : ∃ A c, v = .slice A xs.length c ∧ xs.length ≤ c ∧ (A = none → c = 0) ∧ Rd w (fun b => base ≤ b ∧ b < w.heap.size) k A xs := by
  rcases h.2 with ⟨rfl, h0⟩ | ⟨g, cap, cur, rfl, hb, hg, hnc, _⟩
  · have e : xs = [] := List.eq_nil_of_length_eq_zero h0
    subst e
    exact ⟨none, 0, rfl, by simp, fun _ => rfl, Rd.nil⟩
  · exact ⟨_, _, rfl, hnc, (fun h => by cases h), Rd.of_own h⟩
theorem Own.below {B : Nat} (h : Own w base t k v xs) (hb : Below B w w') (hB : w.heap.size ≤ B) : Own w' base t k v xs := by
  refine ⟨h.1, ?_⟩
  rcases h.2 with h2 | ⟨g, cap, cur, hv, hg, hh, r⟩
  · exact .inl h2
  · refine .inr ⟨g, cap, cur, hv, hg, ?_, r⟩
    have hlt : g < w.heap.size := by
      rcases Nat.lt_or_ge g w.heap.size with hlt | hge
      · exact hlt
      · rw [Array.getElem?_eq_none hge] at hh; cases hh
    rw [hb.block g (by omega)]; exact hh
theorem Own.block_ge (h : Own w base t k v xs) : ∀ g, v.ownBlock = some g → base ≤ g := by
  intro g hg
  rcases h.2 with ⟨rfl, _⟩ | ⟨g', cap, cur, rfl, hb, _⟩
  · cases hg
  · simp [Value.ownBlock] at hg; omega
end

section
variable {P : Program} {w : World} {ops : Array Oper} {o : Oper} {a : Act}
/-- 'append(v, x..)', the digits x in a block that was just made: at a step of a region that draws its order. -/
theorem step_app {K : Act → World → Prop} {Q : Exit → Act → World → Prop} {E : Prop} (hgd : o.guard = none) (s x : Operand) (t : TypeId)
    (ho : o.op = .call { callee := .builtin .append, args := #[s, x], argTypes := #[t, t] })
    (base : Nat) (e : TypeId) (k : IntKind) (bytes : Nat) (ht : P.underlying t = some (.slice e)) (hi : (P.info? e).map (fun i => (i.zero, i.size, i.bytes)) = some (some (.int k 0), 1, bytes))
    (v : Value) (xs : List Nat) (hs : a.eval s = v) (hown : Own w base e k v xs)
    (g0 m c : Nat) (news : List Nat) (hx : a.eval x = .slice (some ⟨g0, 0, none⟩) m c) (hm : news.length = m) (hblk : Row w g0 e k news)
    (hpos : 0 < m) (hlen : xs.length + m ≤ 4294967296) (h8 : bytes ≤ 8) (hbase : base ≤ w.heap.size)
    (h : ∀ v' w', Own w' base e k v' (xs ++ news) → w.grownBy w' v.ownBlock → K (a.put o.dst v') w') :
    if Region.wanted o (yielded ops a.tmps) = true then Oper.wp P o a w K Q else E := by
  obtain ⟨i, hi, hz0, hz1, hz2⟩ := info_parts hi
  refine step_append_lies w hgd s x t ho base e i _ 1 bytes ht hi hz0 hz1 hz2 rfl (by omega) v xs.length _ hs hown ⟨g0, 0, none⟩ m c (cells k news) hx (by rw [length_cells]; omega)
    (fun j u hu => ?_) (one_cells _ _) hpos (by unfold maxLen; omega) ?_ hbase w.heap.size rfl ?_
  · rw [add_mk]
    have hj : j < news.length := by have := (List.getElem?_eq_some_iff.1 hu).1; rwa [length_cells] at this
    rw [get_cells hj] at hu
    rw [Nat.zero_add, hblk.cell hj, hu]
  · have : (xs.length + m) * bytes ≤ 4294967296 * 8 := Nat.mul_le_mul hlen h8
    omega
  · intro g cap w' h1 h2 _ _
    refine h _ w' ?_ h2
    unfold Own
    rw [List.length_append, hm, cells_append]
    exact h1
theorem wpList_app {rest : List Oper} {Q : Exit → Act → World → Prop} (hgd : o.guard = none) (s x : Operand) (t : TypeId)
    (ho : o.op = .call { callee := .builtin .append, args := #[s, x], argTypes := #[t, t] })
    (base : Nat) (e : TypeId) (k : IntKind) (bytes : Nat) (ht : P.underlying t = some (.slice e)) (hi : (P.info? e).map (fun i => (i.zero, i.size, i.bytes)) = some (some (.int k 0), 1, bytes))
    (v : Value) (xs : List Nat) (hs : a.eval s = v) (hown : Own w base e k v xs)
    (g0 m c : Nat) (news : List Nat) (hx : a.eval x = .slice (some ⟨g0, 0, none⟩) m c) (hm : news.length = m) (hblk : Row w g0 e k news)
    (hpos : 0 < m) (hlen : xs.length + m ≤ 4294967296) (h8 : bytes ≤ 8) (hbase : base ≤ w.heap.size)
    (h : ∀ v' w', Own w' base e k v' (xs ++ news) → w.grownBy w' v.ownBlock → wpList P ops Q rest (a.put o.dst v') w') : wpList P ops Q (o :: rest) a w := by
  obtain ⟨i, hi, hz0, hz1, hz2⟩ := info_parts hi
  refine wpList_append_lies w hgd s x t ho base e i _ 1 bytes ht hi hz0 hz1 hz2 rfl (by omega) v xs.length _ hs hown ⟨g0, 0, none⟩ m c (cells k news) hx (by rw [length_cells]; omega)
    (fun j u hu => ?_) (one_cells _ _) hpos (by unfold maxLen; omega) ?_ hbase w.heap.size rfl ?_
  · rw [add_mk]
    have hj : j < news.length := by have := (List.getElem?_eq_some_iff.1 hu).1; rwa [length_cells] at this
    rw [get_cells hj] at hu
    rw [Nat.zero_add, hblk.cell hj, hu]
  · have : (xs.length + m) * bytes ≤ 4294967296 * 8 := Nat.mul_le_mul hlen h8
    omega
  · intro g cap w' h1 h2 _ _
    refine h _ w' ?_ h2
    unfold Own
    rw [List.length_append, hm, cells_append]
    exact h1
end

theorem tmod_nat (x b : Nat) : ((x : Int)).tmod (b : Int) = ((x % b : Nat) : Int) := by
  rw [Int.tmod_eq_emod_of_nonneg (by omega)]; omega
theorem tdiv_nat (x b : Nat) : ((x : Int)).tdiv (b : Int) = ((x / b : Nat) : Int) := by
  rw [Int.tdiv_eq_ediv_of_nonneg (by omega)]; omega
/-- only the own row and new blocks have changed -/
theorem below_app {B : Nat} {a b c : World} {base : Nat} {t : TypeId} {k : IntKind} {v : Value} {xs : List Nat} (h : Below B a b) (hg : b.grownBy c v.ownBlock) (ho : Own b base t k v xs) (hB : B ≤ b.heap.size) (hb : B ≤ base) : Below B a c :=
  h.grown hg hB (fun g e => Nat.le_trans hb (ho.block_ge g e))

/-- a cell below the own blocks is as it was behind an append -/
theorem far_app {b c : World} {b' : World} {base : Nat} {t : TypeId} {k : IntKind} {v : Value} {xs : List Nat} (hg : b.grownBy c v.ownBlock) (ho : Own b' base t k v xs) {p : Addr} (hp : p.block < base) (hB : base ≤ b.heap.size) : c.cell? p = b.cell? p :=
  hg.cell_far p (by omega) (fun e => by have := ho.block_ge _ e.symm; omega)

section
variable {P : Program}
/-- 'make([]T, n)' -/
theorem run_make_digits (t e : TypeId) (k : IntKind) (bytes : Nat) (ht : P.underlying t = some (.slice e)) (hi : (P.info? e).map (fun i => (i.zero, i.size, i.bytes)) = some (some (.int k 0), 1, bytes)) (h8 : bytes ≤ 8) (n : Nat) (hn : n ≤ 34359738368) (u : World) :
    (Instr.makeSlice t (.int .i64 (n : Int)) (.int .i64 (n : Int))).run P u = .ok (.slice (some ⟨u.heap.size, 0, none⟩) n n) (u.alloc (.cells (cells k (List.replicate n 0)).toArray e)) := by
  obtain ⟨i, hi, hz0, hz1, hz2⟩ := info_parts hi
  have hb : (i.bytes : Int) * (n : Int) ≤ 281474976710656 := by
    have h : i.bytes * n ≤ 8 * 34359738368 := Nat.mul_le_mul (by omega) hn
    have h' : ((i.bytes * n : Nat) : Int) ≤ 281474976710656 := by omega
    rwa [Int.natCast_mul] at h'
  have h := run_make (P := P) u t e i (.int k 0) ht hi hz0 .i64 .i64 n n (by omega) (Int.le_refl _) hb (by omega)
  rw [Int.toNat_natCast] at h
  rw [h, hz1, ← cells_zeros]
  simp [Value.cells]

/-- 'copy' of digits into a row that is known whole -/
theorem wpList_copy_digits {w : World} {ops : Array Oper} {rest : List Oper} {o : Oper} {a : Act} {Q : Exit → Act → World → Prop} (hgd : o.guard = none) (d s : Operand) (T : TypeId)
    (ho : o.op = .call { callee := .builtin .copy, args := #[d, s], argTypes := #[T, T] }) (e : TypeId) (k : IntKind) (hu : P.underlying T = some (.slice e)) (hsz : (P.info? e).map (·.size) = some 1)
    (dp sp : Option Addr) (dLen dCap sLen sCap : Nat) (hd : a.eval d = .slice dp dLen dCap) (hs : a.eval s = .slice sp sLen sCap)
    (g off : Nat) (zs : List Nat) (hrow : Row w g e k zs) (xs : List Nat) (hx : xs.length = Nat.min sLen dLen) (hdp : 0 < xs.length → dp = some ⟨g, off, none⟩) (S : Nat → Prop) (hrd : Rd w S k sp xs) (hfit : off + xs.length ≤ zs.length)
    (h : ∀ w', Row w' g e k (splice zs off xs) → w.grownBy w' (some g) → wpList P ops Q rest (a.put o.dst (goInt xs.length)) w') : wpList P ops Q (o :: rest) a w := by
  by_cases h0 : xs.length = 0
  · obtain rfl : xs = [] := List.eq_nil_of_length_eq_zero h0
    refine wpList_copy_nothing hgd d s T T ho e hu hsz dp sp dLen dCap sLen sCap hd hs (by simpa using hx.symm) ?_
    exact h w (by simpa [splice] using hrow) (World.grownBy.refl w _)
  · obtain ⟨b, o', rfl, _, hc⟩ := hrd (by omega)
    obtain rfl := hdp (by omega)
    have hcl : (cells k xs).length = xs.length := length_cells k xs
    refine wpList_copy_own hgd d s T T ho e hu hsz g off dLen dCap ⟨b, o', none⟩ sLen sCap hd hs (cells k zs).toArray e hrow (cells k xs) (by rw [hcl]; exact hx) (fun j v hv => ?_) (by rw [hcl]; simpa [cells] using hfit) (one_cells k xs) ?_
    · have hj : j < xs.length := by have := (List.getElem?_eq_some_iff.1 hv).1; omega
      rw [get_cells hj] at hv
      rw [add_mk, hc j hj, hv]
    · rw [hcl]
      refine h _ ?_ ⟨rfl, rfl, rfl, by simp [World.setRow], fun i _ hi => setRow_other w g i _ (fun e => hi (by rw [e]))⟩
      have := setRow_heap w g (cells k zs).toArray ((cells k zs).take off ++ (cells k xs ++ (cells k zs).drop (off + xs.length))).toArray e (0, 0) hrow
      unfold Row
      rw [this]
      simp [splice, cells, List.map_take, List.map_drop]
end

/-- a call that leaves the world as it was, inside a region that only reads: the first such region, and one behind draws. -/
theorem quiet_one {P : Program} {f : FuncId} {args : Array Value} {w : World} {n : Nat} {v : Value} (h : Calls P f args (w.drewN n) fun e w' => e = .returned v ∧ w.drewN n = w') :
    Calls P f args (w.drewN n) fun e w' => e = .returned v ∧ ∃ k, w' = w.drewN k := h.mono fun _ _ hh => ⟨hh.1, n, hh.2.symm⟩
theorem quiet_two {P : Program} {f : FuncId} {args : Array Value} {w : World} {a n : Nat} {v : Value} (h : Calls P f args (w.drewN (a + n)) fun e w' => e = .returned v ∧ w.drewN (a + n) = w') :
    Calls P f args (w.drewN (a + n)) fun e w' => e = .returned v ∧ ∃ k, w' = w.drewN (a + k) := h.mono fun _ _ hh => ⟨hh.1, n, hh.2.symm⟩

/-- A NUMBER THAT A CALL HANDS BACK: a slice of digits below b, without noughts at the top, of value N; nothing that was there has changed. -/
def Gives (k : IntKind) (b N : Nat) (w : World) (e : Ending) (w' : World) : Prop :=
  ∃ A xs c, e = .returned (.slice A xs.length c) ∧ xs.length ≤ c ∧ Norm b xs ∧ val b xs = N ∧ Rd w' (fun g => g < w'.heap.size) k A xs ∧ Below w.heap.size w w'

/-- the same with a word on whether there is one; where there is none: 0. -/
def GivesB (k : IntKind) (b N : Nat) (ok : Bool) (w : World) (e : Ending) (w' : World) : Prop :=
  ∃ A xs c, e = .returned (.tuple #[.slice A xs.length c, .bool ok]) ∧ xs.length ≤ c ∧ Norm b xs ∧ val b xs = N ∧ Rd w' (fun g => g < w'.heap.size) k A xs ∧ Below w.heap.size w w'
/-- a quotient and what is left; where there is nothing to divide by: zeros and false. -/
def GivesQR (k : IntKind) (b N D : Nat) (w : World) (e : Ending) (w' : World) : Prop :=
  ∃ A q c A' r c', e = .returned (.tuple #[.slice A q.length c, .slice A' r.length c', .bool (decide (0 < D))]) ∧ q.length ≤ c ∧ r.length ≤ c' ∧ Norm b q ∧ Norm b r ∧ val b q = N / D ∧ val b r = (if D = 0 then 0 else N % D) ∧
    Rd w' (fun g => g < w'.heap.size) k A q ∧ Rd w' (fun g => g < w'.heap.size) k A' r ∧ Below w.heap.size w w'
theorem norm_nil (b : Nat) : Norm b [] := ⟨Dg.nil b, by simp [Top]⟩

end Go.Proofs.Ytoidhoiadkafhaa.Num
