/- Rows in a block of their own, of a type whose cells hold no integers: what append leaves, of any number of elements; what else is read stays. No program is named here. -/
import Derived.Test.YtdmoibphidipeaaGreatDoorZOaI
import Derived.Deep.Upon
import Derived.Test.YtdmoibphidipeaaGreatDoorZCrX
import Derived.Test.YtdmoibphidipeaaGreatDoorZCsF
import Derived.Test.YtdmoibphidipeaaGreatDoorZSoC
namespace Go.Proofs.YtdmoibphidipeaaGreatDoor
open Go.RowKit Num

/-- a slice of elements of k cells in a block of its own, in which no integer lies -/
def OwnR (t : TypeId) (k : Nat) (w : World) (base : Nat) (v : Value) (n : Nat) (xs : List Value) : Prop :=
  xs.length = n * k ∧ NoInt xs ∧ ((v = .slice none 0 0 ∧ n = 0) ∨
    ∃ g cap cur, v = .slice (some ⟨g, 0, none⟩) n cap ∧ base ≤ g ∧ w.heap[g]? = some (.cells cur t (0, 0)) ∧ n ≤ cap ∧ cap ≤ maxLen ∧ cur.size = cap * k ∧ cur.toList.take (n * k) = xs ∧ NoInt cur.toList)
theorem OwnR.nil (t : TypeId) (k : Nat) (w : World) (base : Nat) : OwnR t k w base (.slice none 0 0) 0 [] := ⟨by simp, fun v h => by simp at h, .inl ⟨rfl, rfl⟩⟩
section
variable {t : TypeId} {k : Nat}
theorem OwnR.lt {w : World} {base : Nat} {v : Value} {n : Nat} {xs : List Value} (h : OwnR t k w base v n xs) : ∀ j, v.ownBlock = some j → base ≤ j ∧ j < w.heap.size := by
  intro j hj
  rcases h.2.2 with ⟨rfl, _⟩ | ⟨g, cap, cur, rfl, hb, hg, _⟩
  · simp [Value.ownBlock] at hj
  · simp [Value.ownBlock] at hj
    subst hj
    exact ⟨hb, (Array.getElem?_eq_some_iff.1 hg).1⟩
theorem OwnR.kept {w w' : World} {base : Nat} {v : Value} {n : Nat} {xs : List Value} (h : OwnR t k w base v n xs) (hb : Below w.heap.size w w') : OwnR t k w' base v n xs := by
  refine ⟨h.1, h.2.1, ?_⟩
  rcases h.2.2 with hn | ⟨g, cap, cur, rfl, hbg, hg, rest⟩
  · exact .inl hn
  · exact .inr ⟨g, cap, cur, rfl, hbg, (hb.block g (Array.getElem?_eq_some_iff.1 hg).1).trans hg, rest⟩
theorem OwnR.mono {w : World} {base base' : Nat} {v : Value} {n : Nat} {xs : List Value} (h : OwnR t k w base v n xs) (hb : base' ≤ base) : OwnR t k w base' v n xs := by
  refine ⟨h.1, h.2.1, ?_⟩
  rcases h.2.2 with hn | ⟨g, cap, cur, rfl, hbg, rest⟩
  · exact .inl hn
  · exact .inr ⟨g, cap, cur, rfl, Nat.le_trans hb hbg, rest⟩
theorem OwnR.cell {w : World} {base g cap : Nat} {n : Nat} {xs : List Value} (h : OwnR t k w base (.slice (some ⟨g, 0, none⟩) n cap) n xs) (j : Nat) {u : Value} (hu : xs[j]? = some u) : w.cell? ⟨g, j, none⟩ = some u := by
  rcases h.2.2 with ⟨e, _⟩ | ⟨g', cap', cur, e, _, hg, _, _, _, htake, _⟩
  · cases e
  · simp only [Value.slice.injEq, Option.some.injEq, Addr.mk.injEq, and_true, true_and] at e
    obtain ⟨rfl, rfl⟩ := e
    rw [cell_of_row w g j cur _ (0, 0) hg]
    rw [← htake, List.getElem?_take] at hu
    split at hu
    · simpa using hu
    · cases hu
/-- words that are read stay when the row grows -/
theorem OwnR.rd {w w' : World} {base : Nat} {v : Value} {n : Nat} {xs : List Value} (h : OwnR t k w base v n xs) (hg : w.grownBy w' v.ownBlock) {kk : IntKind} {A : Option Addr} {ys : List Nat} (r : Rd w (fun b => b < w.heap.size) kk A ys) : Rd w' (fun b => b < w'.heap.size) kk A ys := fun hn => by
  obtain ⟨b, o, e, hb, hc⟩ := r hn
  have hne : some b ≠ v.ownBlock := by
    intro eb
    rcases h.2.2 with ⟨rfl, _⟩ | ⟨g, cap, cur, rfl, _, hgg, _, _, _, _, hno⟩
    · simp [Value.ownBlock] at eb
    · simp only [Value.ownBlock, Option.some.injEq] at eb
      subst eb
      have h0 := hc 0 hn
      rw [cell_of_row w b _ cur _ (0, 0) hgg] at h0
      exact hno _ (Array.mem_toList_iff.2 (Array.mem_of_getElem? h0)) _ _ rfl
  refine ⟨b, o, e, Nat.lt_of_lt_of_le hb hg.size, fun j hj => ?_⟩
  rw [← hc j hj]
  exact World.cell?_of_block (hg.block b hb hne)
theorem OwnR.ok {w w' : World} {base : Nat} {v : Value} {n : Nat} {xs : List Value} (h : OwnR t k w base v n xs) (hg : w.grownBy w' v.ownBlock) {s : Sp} (o : s.Ok w) : s.Ok w' := ⟨⟨h.rd hg o.1.1, h.rd hg o.1.2⟩, h.rd hg o.2.1, h.rd hg o.2.2⟩
theorem OwnR.any {w : World} {base : Nat} {v : Value} {n : Nat} {xs : List Value} (h : OwnR t k w base v n xs) : ∃ A cap, v = .slice A n cap ∧ n ≤ cap := by
  rcases h.2.2 with ⟨rfl, rfl⟩ | ⟨g, cap, cur, rfl, _, _, hc, _⟩
  · exact ⟨none, 0, rfl, Nat.le_refl _⟩
  · exact ⟨_, cap, rfl, hc⟩
end
section
variable {P : Program} {t : TypeId} {k : Nat}
theorem grownBy_same (w : World) (row : Option Nat) : w.grownBy w row := ⟨rfl, rfl, rfl, Nat.le_refl _, fun _ _ _ => rfl⟩
/-- the type of the row's elements: their zero value, their cells -/
structure Elem (P : Program) (st t : TypeId) (zs : List Value) (k by' : Nat) : Prop where
  under : P.underlying st = some (.slice t)
  info : (P.info? t).map (fun i => (i.zero, i.size, i.bytes)) = some (some (.agg zs.toArray), k, by')
  cells : (Value.agg zs.toArray).cells = zs.toArray
  len : zs.length = k
  pos : 0 < k
  bytes : by' ≤ 65536
  noint : NoInt zs
/-- any number of elements more: what append leaves -/
theorem run_append_R {st : TypeId} {zs : List Value} {by' : Nat} (E : Elem P st t zs k by') (w : World) (base : Nat) (ty : TypeId) (v : Value) (n : Nat) (xs : List Value) (hown : OwnR t k w base v n xs) (p : Option Addr) (m c : Nat) (news : List Value)
    (hl : news.length = m * k) (hp : 0 < m → ∃ a, p = some a ∧ ∀ j u, news[j]? = some u → w.cell? (a.add j) = some u) (h1 : ∀ u ∈ news, u.oneCell' = true) (hno : NoInt news) (hn : n + m ≤ 1073741824) (hbase : base ≤ w.heap.size) :
    ∃ v' w', (Builtin.append_ #[st, st] ty #[v, .slice p m c]).run P w = .ok v' w' ∧ OwnR t k w' base v' (n + m) (xs ++ news) ∧ w.grownBy w' v.ownBlock := by
  obtain ⟨i, hi, hz, hsize, hby⟩ := info_parts E.info
  have ht := E.under
  have hzs := E.noint
  have hcells := E.cells
  have hzl := E.len
  have hbb := E.bytes
  rcases Nat.eq_zero_or_pos m with rfl | hm
  · have hnil : news = [] := List.eq_nil_of_length_eq_zero (by rw [hl]; simp)
    subst hnil
    obtain ⟨A, cap, rfl, hcap⟩ := hown.any
    have hs : Src P i.size st (.slice p 0 c) 0 [] w := by
      cases p with
      | none => exact Src.ofNil w ht c
      | some a => exact Src.ofSlice w ht a 0 c [] (by simp) (by simp) (by simp)
    refine ⟨_, w, run_append_nothing w st st ty t i ht hi A n cap hcap _ hs, by simpa using hown, grownBy_same _ _⟩
  · obtain ⟨a, rfl, hnews⟩ := hp hm
    have hlen : (xs ++ news).length = (n + m) * k := by rw [List.length_append, hown.1, hl, Nat.add_mul]
    have hall : NoInt (xs ++ news) := hown.2.1.append hno
    have h63 : n + m ≤ maxLen := by unfold maxLen; omega
    have hbm : ∀ x, x ≤ 1073741824 → x * i.bytes ≤ 140737488355328 := fun x hx => by
      rw [hby]
      calc x * by' ≤ 1073741824 * 65536 := Nat.mul_le_mul hx hbb
        _ ≤ 140737488355328 := by decide
    have grown : ∀ (old : Nat) (row : Option Nat),
        OwnR t k (w.drew.alloc (.cells (xs.toArray ++ news.toArray ++ Builtin.zeroCells (Value.agg zs.toArray).cells (grownCap w (n + m) old t - (n + m))) t)) base (.slice (some ⟨w.heap.size, 0, none⟩) (n + m) (grownCap w (n + m) old t)) (n + m) (xs ++ news) ∧
        w.grownBy (w.drew.alloc (.cells (xs.toArray ++ news.toArray ++ Builtin.zeroCells (Value.agg zs.toArray).cells (grownCap w (n + m) old t - (n + m))) t)) row := by
      intro old row
      have hge := grownCap_ge w (n + m) old t
      have hcm := grownCap_le_maxLen w (n + m) old t h63
      rw [hcells]
      refine ⟨⟨hlen, hall, .inr ⟨w.heap.size, _, _, rfl, hbase, heap_alloc_new w.drew _, hge, hcm, ?_, ?_, ?_⟩⟩, ⟨rfl, rfl, rfl, by simp, fun k hk _ => heap_alloc_old w.drew _ hk⟩⟩
      · simp only [Array.size_append, List.size_toArray, size_zeroCells, hown.1, hl, hzl]
        rw [← Nat.add_mul, ← Nat.add_mul]
        congr 1
        omega
      · simp only [Array.toList_append, List.append_assoc]
        rw [← List.append_assoc, ← hlen]
        exact List.take_left
      · simp only [Array.toList_append]
        exact hall.append (zeroCells_noint (by simpa using hzs) _)
    rcases hown.2.2 with ⟨rfl, rfl⟩ | ⟨g, cap, cur, rfl, hbg, hg, hnc, hcm, hcs, htake, hni⟩
    · have hx : xs = [] := List.eq_nil_of_length_eq_zero (by rw [hown.1]; simp)
      subst hx
      have hr := run_append_nil (P := P) w st ty t i _ ht hi hz a m c news (by rw [hl, hsize]) hnews hm (by omega) (Nat.le_trans (hbm m (by omega)) (by omega))
      have hgr := grown 0 (Value.ownBlock (.slice none 0 0))
      simp only [Nat.zero_add, List.nil_append, Array.empty_append] at hgr ⊢
      exact ⟨_, _, hr, hgr.1, hgr.2⟩
    · by_cases hroom : n + m ≤ cap
      · have hfit : n * i.size + news.length ≤ cur.size := by rw [hl, hsize, hcs, ← Nat.add_mul]; exact Nat.mul_le_mul_right _ hroom
        have hr := run_append_room (P := P) w st ty t i ht hi g n cap cur hg a m c news (by rw [hl, hsize]) hnews h1 hroom hfit
        rw [hsize] at hr
        rw [hsize] at hfit
        refine ⟨_, _, hr, ⟨hlen, hall, .inr ⟨g, cap, _, rfl, hbg, setRow_heap w g cur _ _ _ hg, hroom, hcm, ?_, ?_, ?_⟩⟩, ⟨rfl, rfl, rfl, by simp, fun k _ hk => setRow_other w g k _ (fun e => hk (by simp [Value.ownBlock, e]))⟩⟩
        · simp only [List.size_toArray, List.length_append, List.length_take, List.length_drop, Array.length_toList]
          omega
        · rw [htake, ← hlen]
          exact List.take_left
        · rw [htake]
          exact hall.append fun v hv => hni v (List.mem_of_mem_drop hv)
      · have holds : ∀ j u, xs[j]? = some u → w.cell? ((⟨g, 0, none⟩ : Addr).add j) = some u := fun j u hu => by
          have hadd : (⟨g, 0, none⟩ : Addr).add j = ⟨g, j, none⟩ := by unfold Addr.add; split <;> simp_all
          rw [hadd]
          exact OwnR.cell (base := base) (cap := cap) hown j hu
        have hr := run_append_grow (P := P) w st ty t i _ ht hi hz ⟨g, 0, none⟩ n cap xs (by rw [hsize]; exact hown.1) holds a m c news (by rw [hl, hsize]) hnews (by omega) (by omega) (growslice_fits (by omega) (hbm _ hn))
        have hgr := grown cap (Value.ownBlock (.slice (some ⟨g, 0, none⟩) n cap))
        exact ⟨_, _, hr, hgr.1, hgr.2⟩
theorem wpList_append_R {st : TypeId} {zs : List Value} {by' : Nat} (E : Elem P st t zs k by') {ops : Array Oper} {rest : List Oper} {o : Oper} {a : Act} {Q : Exit → Act → World → Prop} (w : World) (hgd : o.guard = none) (s x : Operand)
    (ho : o.op = .call { callee := .builtin .append, args := #[s, x], argTypes := #[st, st] }) (base : Nat) (v : Value) (n : Nat) (xs : List Value) (hs : a.eval s = v) (hown : OwnR t k w base v n xs)
    (p : Option Addr) (m c : Nat) (news : List Value) (hx : a.eval x = .slice p m c) (hl : news.length = m * k) (hp : 0 < m → ∃ a, p = some a ∧ ∀ j u, news[j]? = some u → w.cell? (a.add j) = some u) (h1 : ∀ u ∈ news, u.oneCell' = true) (hno : NoInt news) (hn : n + m ≤ 1073741824) (hbase : base ≤ w.heap.size)
    (h : ∀ v' w', OwnR t k w' base v' (n + m) (xs ++ news) → w.grownBy w' v.ownBlock → wpList P ops Q rest (a.put o.dst v') w') : wpList P ops Q (o :: rest) a w := by
  refine wpList_plain hgd fun _ hK => ?_
  obtain ⟨v', w', hr, h2, h3⟩ := run_append_R E w base o.type v n xs hown p m c news hl hp h1 hno hn hbase
  unfold Oper.wp execOp
  simp only [ho, resolve, invoke, builtin, Sem.run_bind, Sem.run_pure, Result.andThen_ok, List.map_toArray, List.map_cons, List.map_nil, hs, hx, hr]
  exact hK _ _ (h v' w' h2 h3)
/-- at a step of a drawn region -/
theorem step_append_R {st : TypeId} {zs : List Value} {by' : Nat} (El : Elem P st t zs k by') {ops : Array Oper} {o : Oper} {a : Act} {K : Act → World → Prop} {Q : Exit → Act → World → Prop} {E : Prop} (w : World) (hgd : o.guard = none) (s x : Operand)
    (ho : o.op = .call { callee := .builtin .append, args := #[s, x], argTypes := #[st, st] }) (base : Nat) (v : Value) (n : Nat) (xs : List Value) (hs : a.eval s = v) (hown : OwnR t k w base v n xs)
    (p : Option Addr) (m c : Nat) (news : List Value) (hx : a.eval x = .slice p m c) (hl : news.length = m * k) (hp : 0 < m → ∃ a, p = some a ∧ ∀ j u, news[j]? = some u → w.cell? (a.add j) = some u) (h1 : ∀ u ∈ news, u.oneCell' = true) (hno : NoInt news) (hn : n + m ≤ 1073741824) (hbase : base ≤ w.heap.size)
    (h : ∀ v' w', OwnR t k w' base v' (n + m) (xs ++ news) → w.grownBy w' v.ownBlock → K (a.put o.dst v') w') :
    if Region.wanted o (yielded ops a.tmps) = true then Oper.wp P o a w K Q else E := by
  have hw : Region.wanted o (yielded ops a.tmps) = true := by simp [Region.wanted, hgd]
  rw [if_pos hw]
  obtain ⟨v', w', hr, h2, h3⟩ := run_append_R El w base o.type v n xs hown p m c news hl hp h1 hno hn hbase
  unfold Oper.wp execOp
  simp only [ho, resolve, invoke, builtin, Sem.run_bind, Sem.run_pure, Result.andThen_ok, List.map_toArray, List.map_cons, List.map_nil, hs, hx, hr]
  exact h v' w' h2 h3
end
end Go.Proofs.YtdmoibphidipeaaGreatDoor
/- The cuts of a way, as mathematics: ways of the grid that may not be; what is gathered way by way. No program is named here. -/

namespace Go.Proofs.YtdmoibphidipeaaGreatDoor

/-- a rising row whose members lie among others is no longer than these -/
theorem asc_le : ∀ {R L : List Qp}, R.Pairwise ltQ → (∀ p, p ∈ R → p ∈ L) → R.length ≤ L.length
  | [], _, _, _ => Nat.zero_le _
  | x :: R, L, hs, h => by
    rw [List.pairwise_cons] at hs
    have hx := h x (by simp)
    have := asc_le (R := R) (L := L.erase x) hs.2 fun p hp => by
      have hne : p ≠ x := fun e => by subst e; exact ltQ_irrefl (hs.1 p hp)
      exact (List.mem_erase_of_ne hne).2 (h p (by simp [hp]))
    rw [List.length_erase_of_mem hx] at this
    have hpos := List.length_pos_of_mem hx
    rw [List.length_cons]
    omega
theorem inCuts_none (a b : Qp) (p : Qp) : p ∈ [a, b] ↔ InCuts a b [] p := by
  unfold InCuts
  simp
theorem inCuts_step {a b : Qp} {T : List (Option (Qp × Qp))} {t : Option (Qp × Qp)} {R0 R : List Qp} (h : ∀ p, p ∈ R0 ↔ InCuts a b T p) (hm : MeetO a b t R) (p : Qp) : p ∈ R0 ++ R ↔ InCuts a b (T ++ [t]) p := by
  rw [List.mem_append, h]
  unfold InCuts
  constructor
  · rintro ((e | e | ⟨u, hu, S, hS, hp⟩) | hp)
    · exact .inl e
    · exact .inr (.inl e)
    · exact .inr (.inr ⟨u, by simp [hu], S, hS, hp⟩)
    · exact .inr (.inr ⟨t, by simp, R, hm, hp⟩)
  · rintro (e | e | ⟨u, hu, S, hS, hp⟩)
    · exact .inl (.inl e)
    · exact .inl (.inr (.inl e))
    · rcases List.mem_append.1 hu with k | k
      · exact .inl (.inr (.inr ⟨u, k, S, hS, hp⟩))
      · rw [List.mem_singleton] at k
        subst k
        rw [hm.unique hS]
        exact .inr hp
/-- a way of the grid -/
abbrev Wy := Pt × Pt
open Classical in
noncomputable def wayT (t : Wy) : Option (Qp × Qp) := if FitP t.1 ∧ FitP t.2 then some (qAt t.1, qAt t.2) else none
/-- the row that Cuts answers, of ways of the grid -/
def CutsR (a b : Pt) (l : List Wy) (R : List Qp) : Prop := (FitP a ∧ FitP b → IsCuts (qAt a) (qAt b) (l.map wayT) R) ∧ (¬ (FitP a ∧ FitP b) → R = [])
theorem CutsR.unique {a b : Pt} {l : List Wy} {R R' : List Qp} (h : CutsR a b l R) (k : CutsR a b l R') : R = R' := by
  by_cases hf : FitP a ∧ FitP b
  · exact (h.1 hf).unique (k.1 hf)
  · rw [h.2 hf, k.2 hf]
end Go.Proofs.YtdmoibphidipeaaGreatDoor
/- The cuts of a way: rows of ways as they lie; both Rows by worth, of any size of words; what both Cuts answer. -/

namespace Go.Proofs.YtdmoibphidipeaaGreatDoor
open Go.RowKit Num rows

/-- a row of ways as it lies -/
def segRow (l : List Wy) : List Value := l.flatMap fun s => segCells s.1 s.2
theorem segCells_length (s : Wy) : (segCells s.1 s.2).length = 4 := rfl
theorem RdV.seg {w : World} {B : Nat} {p : Option Addr} {l : List Wy} (h : RdV w B p (segRow l)) {i : Nat} (hi : i < l.length) : ∃ b o, p = some ⟨b, o, none⟩ ∧ b < B ∧ (w.cell? ⟨b, o + i * 4, none⟩ = some (.int .i64 l[i].1.x) ∧ w.cell? ⟨b, o + i * 4 + 1, none⟩ = some (.int .i64 l[i].1.y) ∧ w.cell? ⟨b, o + i * 4 + 2, none⟩ = some (.int .i64 l[i].2.x) ∧ w.cell? ⟨b, o + i * 4 + 3, none⟩ = some (.int .i64 l[i].2.y)) := by
  obtain ⟨b, o, e, hb, hc⟩ := RdV.elem segCells_length h (by omega) hi
  exact ⟨b, o, e, hb, hc 0 _ rfl, hc 1 _ rfl, hc 2 _ rfl, hc 3 _ rfl⟩
/-- both Rows, read; the program's own lies in a block of its own -/
def RowToM (M : Nat) (L : List Sp) (w : World) (e : Ending) (w' : World) : Prop :=
  ∃ p cap xs R, e = .returned (.slice p (List.length xs) cap) ∧ xs.length ≤ cap ∧ RdS w' p xs ∧ RowW M w' xs R ∧ (R.Pairwise ltQ ∧ ∀ q, q ∈ R ↔ q ∈ L.map sw) ∧ xs.length ≤ L.length ∧ Below w.heap.size w w'
def RowToO (M : Nat) (L : List Sp) (w : World) (e : Ending) (w' : World) : Prop :=
  ∃ p cap xs R, e = .returned (.slice p (List.length xs) cap) ∧ xs.length ≤ cap ∧ RdS w' p xs ∧ RowW M w' xs R ∧ (R.Pairwise ltQ ∧ ∀ q, q ∈ R ↔ q ∈ L.map sw) ∧ xs.length ≤ L.length ∧ Below w.heap.size w w' ∧ RowO w.heap.size w' p xs
theorem row_short {M : Nat} {L : List Sp} {w : World} {xs : List Sp} {R : List Qp} (k1 : RowW M w xs R) (k2 : R.Pairwise ltQ) (k3 : ∀ q, q ∈ R ↔ q ∈ L.map sw) : xs.length ≤ L.length := by
  have := asc_le k2 (fun q hq => (k3 q).1 hq)
  rw [List.length_map] at this
  rw [k1.length]
  exact this
theorem spot_RowM {M : Nat} (hM1 : 1 ≤ M) (hM : M ≤ 100000) (L : List Sp) (A : Option Addr) (cap : Nat) (w : World) (hlen : L.length ≤ 1048576) (h0 : 0 < L.length) (hl : RdS w A L) (hL : ∀ s ∈ L, s.Red M ∧ s.Ok w) :
    Calls Tryz.prog 37 #[.slice A L.length cap] w (RowToO (M + 1) L w) := by
  refine (spot_RowO L A cap M w hM1 (by omega) hlen h0 hl (fun s hs => (hL s hs).2) (fun s hs => (hL s hs).1.sh)).mono ?_
  rintro e w' ⟨s, h1, h2, h3, p, cp, xs, rfl, hc, hr, hf, hb, ho⟩
  obtain ⟨R, k1, k2, k3⟩ := cut_worth (ord_cfL L) h1 h2 h3 hf
  exact ⟨p, cp, xs, R, rfl, hc, hr, k1, ⟨k2, k3⟩, row_short k1 k2 k3, hb, ho⟩
theorem ref5_RowM {M : Nat} (hM : M ≤ 100000) (L : List Sp) (A : Option Addr) (cap : Nat) (w : World) (hlen : L.length ≤ 1048576) (hcap : L.length ≤ cap) (hl : RdS w A L) (hL : ∀ s ∈ L, s.Red M ∧ s.Ok w) :
    Calls Tryz.prog 46 #[.slice A L.length cap] w (RowToM (M + 1) L w) := by
  refine (ref5_Row L A cap M w (by omega) hlen hcap hl (fun s hs => (hL s hs).2) (fun s hs => (hL s hs).1.sh)).mono ?_
  rintro e w' ⟨v, xs, rfl, ho, hf, hb⟩
  obtain ⟨p, cp, rfl, hc⟩ := ho.any
  obtain ⟨R, k1, k2, k3⟩ := row_worth (ord_cfL L) hf
  exact ⟨p, cp, xs, R, rfl, hc, ho.reads, k1, ⟨k2, k3⟩, row_short k1 k2 k3, hb⟩
/-- what both Cuts answer -/
def CutsTo (a b : Pt) (l : List Wy) (w : World) (e : Ending) (w' : World) : Prop :=
  ∃ p cap xs R, e = .returned (.slice p (List.length xs) cap) ∧ xs.length ≤ cap ∧ RdS w' p xs ∧ RowW 17 w' xs R ∧ CutsR a b l R ∧ R.length ≤ 2 + 2 * l.length ∧ Below w.heap.size w w'
theorem MeetR.toO {a b c d : Pt} {R : List Qp} (ha : FitP a) (hb : FitP b) (h : MeetR a b c d R) : MeetO (qAt a) (qAt b) (wayT (c, d)) R := by
  unfold wayT MeetO
  by_cases hf : FitP c ∧ FitP d
  · rw [if_pos hf]
    exact h.1 ⟨⟨ha, hb⟩, hf⟩
  · rw [if_neg hf]
    exact h.2 fun k => hf k.2
theorem MeetR.le {a b c d : Pt} {R : List Qp} (h : MeetR a b c d R) : R.length ≤ 2 := by
  by_cases hf : (FitP a ∧ FitP b) ∧ FitP c ∧ FitP d
  · exact (h.1 hf).le
  · rw [h.2 hf]
    simp
/-- what is gathered of the cuts so far -/
def GathC (a b : Pt) (l : List Wy) (i : Nat) (R : List Qp) : Prop := (∀ p, p ∈ R ↔ InCuts (qAt a) (qAt b) ((l.take i).map wayT) p) ∧ R.length ≤ 2 + 2 * i
theorem GathC.zero (a b : Pt) (l : List Wy) : GathC a b l 0 [qAt a, qAt b] := ⟨fun p => inCuts_none _ _ p, by simp⟩
theorem GathC.more {a b : Pt} {l : List Wy} {i : Nat} {R0 R : List Qp} (ha : FitP a) (hb : FitP b) (h : GathC a b l i R0) (hi : i < l.length) (hm : MeetR a b l[i].1 l[i].2 R) : GathC a b l (i + 1) (R0 ++ R) := by
  refine ⟨fun p => ?_, ?_⟩
  · rw [List.take_succ_eq_append_getElem hi, List.map_append]
    exact inCuts_step h.1 (hm.toO ha hb) p
  · have := h.2
    have := hm.le
    rw [List.length_append]
    omega
theorem GathC.all {a b : Pt} {l : List Wy} {L : List Sp} {R0 R : List Qp} (ha : FitP a) (hb : FitP b) (h : GathC a b l l.length R0) (e : L.map sw = R0) (hs : R.Pairwise ltQ) (hm : ∀ q, q ∈ R ↔ q ∈ L.map sw) :
    (leQ (qAt a) (qAt b) → CutsR a b l R) ∧ (¬ leQ (qAt a) (qAt b) → CutsR a b l R.reverse) := by
  have hall : ∀ p, p ∈ R ↔ InCuts (qAt a) (qAt b) (l.map wayT) p := fun p => by
    rw [hm, e, h.1, List.take_length]
  have k := IsCuts.of hs hall
  exact ⟨fun c => ⟨fun _ => k.1 c, fun n => absurd ⟨ha, hb⟩ n⟩, fun c => ⟨fun _ => k.2 c, fun n => absurd ⟨ha, hb⟩ n⟩⟩
/-- which of two points is the lesser, by what Cmp answers -/
theorem cmp_le {s t : Sp} {p q : Qp} (hs : sw s = p) (ht : sw t = q) : (cmpS s t ≤ 0 ↔ leQ p q) := by
  obtain ⟨h1, h2⟩ := cmpS_worth s t
  rw [hs, ht] at h1 h2
  constructor
  · intro h
    rcases Int.lt_or_eq_of_le h with h | h
    · exact ltQ_le (h1.1 h)
    · rw [h2.1 h]; exact leQ_refl _
  · intro h
    by_cases e : p = q
    · have := h2.2 e; omega
    · have := h1.2 (ltQ_of h e); omega
/-- a row that is read, as a run of cells -/
theorem RdS.flatRead {w : World} {p : Option Addr} {ys : List Sp} (h : RdS w p ys) : 0 < ys.length → ∃ a, p = some a ∧ ∀ j u, (flat ys)[j]? = some u → w.cell? (a.add j) = some u := fun hn => by
  obtain ⟨b, o, e, hb, hc⟩ := h hn
  refine ⟨_, e, fun j u hu => ?_⟩
  have hk : ∀ s : Sp, s.cells.length = 6 := fun s => rfl
  have hj := (List.getElem?_eq_some_iff.1 hu).1
  unfold flat at hj hu
  rw [flat_length hk] at hj
  have hi : j / 6 < ys.length := by omega
  have hg := flat_get hk ys (j / 6) hi (j % 6) (Nat.mod_lt _ (by omega))
  rw [show j / 6 * 6 + j % 6 = j by omega, hu] at hg
  have := hc (j / 6) hi (j % 6) u hg.symm
  rw [Addr.add_lit, show o + j = o + j / 6 * 6 + j % 6 by omega]
  exact this
theorem flat_one : ∀ ys : List Sp, ∀ u ∈ flat ys, u.oneCell' = true := fun ys u hu => by
  unfold flat at hu
  obtain ⟨s, -, hs⟩ := List.mem_flatMap.1 hu
  exact cells_one s u hs
theorem flat_noint : ∀ ys : List Sp, NoInt (flat ys) := fun ys u hu => by
  unfold flat at hu
  obtain ⟨s, -, hs⟩ := List.mem_flatMap.1 hu
  exact cells_noint s u hs
theorem flat_len (ys : List Sp) : (flat ys).length = ys.length * 6 := flat_length (f := Sp.cells) (k := 6) (fun _ => rfl) ys
theorem flat_app (xs ys : List Sp) : flat (xs ++ ys) = flat xs ++ flat ys := by simp [flat]
theorem elem_spot : Elem Tryz.prog 27 41 [.bool false, .slice none 0 0, .slice none 0 0, .bool false, .slice none 0 0, .slice none 0 0] 6 112 where
  under := Tryz.underlying27
  info := info_spot
  cells := rfl
  len := rfl
  pos := by omega
  bytes := by omega
  noint := no_ints
end Go.Proofs.YtdmoibphidipeaaGreatDoor
