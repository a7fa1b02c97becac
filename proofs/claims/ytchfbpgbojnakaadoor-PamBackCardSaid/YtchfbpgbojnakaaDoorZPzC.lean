/- Rasters: the lines ahead of a file, the document's own. -/
import Derived.Test.YtchfbpgbojnakaaDoorZPzA
import Derived.Test.YtchfbpgbojnakaaDoorZFgZ
import Derived.Laws.AppendOwn
import Derived.Laws.IdiomStrings
import Derived.WalkKit
import Derived.Below
import Derived.Deep.AppendLies
import Derived.Test.YtchfbpgbojnakaaDoorZPzB
namespace Go.Proofs.YtchfbpgbojnakaaDoor
open Go.RowKit Num

theorem wtext_short {n : Int} (h1 : -9223372036854775808 ≤ n) (h2 : n ≤ 9223372036854775807) : (wtext n).length ≤ 22 := by
  have h := dec_len_le 20 n.natAbs (by omega)
  unfold wtext
  split <;> simp <;> omega
theorem head_join (a b : By) : ((({ data := #[80, 55, 10, 87, 73, 68, 84, 72, 32] } : ByteArray) ++ ⟨a.toArray⟩) ++ { data := #[10, 72, 69, 73, 71, 72, 84, 32] } ++ ⟨b.toArray⟩) ++ { data := #[10, 68, 69, 80, 84, 72, 32, 52, 10, 77, 65, 88, 86, 65, 76, 32, 50, 53, 53, 10, 84, 85, 80, 76, 84, 89, 80, 69, 32, 82, 71, 66, 95, 65, 76, 80, 72, 65, 10, 69, 78, 68, 72, 68, 82, 10] } =
    ⟨([80, 55, 10, 87, 73, 68, 84, 72, 32] ++ (a ++ ([10, 72, 69, 73, 71, 72, 84, 32] ++ (b ++ [10, 68, 69, 80, 84, 72, 32, 52, 10, 77, 65, 88, 86, 65, 76, 32, 50, 53, 53, 10, 84, 85, 80, 76, 84, 89, 80, 69, 32, 82, 71, 66, 95, 65, 76, 80, 72, 65, 10, 69, 78, 68, 72, 68, 82, 10])))).toArray⟩ := by
  apply ByteArray.ext
  simp [ByteArray.data_append]

set_option maxRecDepth 10000 in
theorem ref9_Head (x y : Int) (hx : -9223372036854775808 ≤ x ∧ x ≤ 9223372036854775807) (hy : -9223372036854775808 ≤ y ∧ y ≤ 9223372036854775807) (w : World) :
    Calls Tryd.prog 24 #[.int .i64 x, .int .i64 y] w fun e w' => e = .returned (.string (str (headOf x y))) ∧ Below w.heap.size w w' := by
  have C1 := Lib.hid (fun V => ref7_Num x hx.1 hx.2 V)
  have C2 := Lib.hid (fun V => ref7_Num y hy.1 hy.2 V)
  obtain ⟨s, hs⟩ : ∃ s : ByteArray, (⟨(wtext x).toArray⟩ : ByteArray) = s := ⟨_, rfl⟩
  obtain ⟨t, ht⟩ : ∃ s : ByteArray, (⟨(wtext y).toArray⟩ : ByteArray) = s := ⟨_, rfl⟩
  have hs1 : s.size ≤ 22 := by rw [← hs, ← str_len]; exact wtext_short hx.1 hx.2
  have ht1 : t.size ≤ 22 := by rw [← ht, ← str_len]; exact wtext_short hy.1 hy.2
  rw [hs] at C1
  rw [ht] at C2
  have HS := Lib.hid (And.intro hs ht)
  clear hs ht
  go_enter Tryd.func24, Tryd.ntmps24
  go_wp2_with first
    | (go_at_call 30; with_reducible refine Calls.mono (C1.out _) ?_; rintro e w1 ⟨rfl, b1⟩)
    | (go_at_call 30; with_reducible refine Calls.mono (C2.out _) ?_; rintro e w2 ⟨rfl, b2⟩)
  go_ret
  refine ⟨?_, b1.trans (b2.mono b1.size)⟩
  have h := head_join (wtext x) (wtext y)
  rw [HS.out.1, HS.out.2] at h
  exact congrArg (fun s => Ending.returned (Value.string s)) h
end Go.Proofs.YtchfbpgbojnakaaDoor
/- Appending to a row that a conversion of a text made: its block bears a mark behind its last cell. No program is named here. -/

open Go.RowKit
namespace Go.Proofs.YtchfbpgbojnakaaDoor

/-- A ROW OF ONE-CELL ELEMENTS THAT LIES IN A BLOCK OF THE CALL'S OWN, whose mark, if any, is behind all its cells. -/
def OwnM (w : World) (base : Nat) (e : TypeId) (v : Value) (xs : List Value) : Prop :=
  ∃ g cap cur lo hi, v = .slice (some ⟨g, 0, none⟩) xs.length cap ∧ base ≤ g ∧ w.heap[g]? = some (.cells cur e (lo, hi)) ∧ (cap ≤ lo ∨ hi = 0) ∧ xs.length ≤ cap ∧ cap ≤ maxLen ∧ cur.size = cap ∧ cur.toList.take xs.length = xs
section
variable {P : Program}
theorem not_marked {w : World} {g lo hi : Nat} {cur : Array Value} {t : TypeId} (hg : w.heap[g]? = some (.cells cur t (lo, hi))) {j : Nat} (hj : j < lo ∨ hi = 0) : w.frozen? ⟨g, j, none⟩ = false := by
  simp only [World.frozen?, hg]
  rcases hj with h | h
  · simp; omega
  · simp [h]
/-- one-cell values stored one behind the other -/
theorem store_marked (g s : Nat) (t : TypeId) (lo hi : Nat) : ∀ (vs : List Value) (i : Nat) (cur : Array Value) (w : World), w.heap[g]? = some (.cells cur t (lo, hi)) → s + i + vs.length ≤ cur.size → (cur.size ≤ lo ∨ hi = 0) → (∀ v ∈ vs, v.oneCell' = true) →
    ∃ w' cur', (storeCells ⟨g, s, none⟩ vs i).run P w = .ok () w' ∧ w'.heap[g]? = some (.cells cur' t (lo, hi)) ∧ cur'.size = cur.size ∧ cur'.toList.take (s + i + vs.length) = cur.toList.take (s + i) ++ vs ∧ w.grownBy w' (some g)
  | [], i, cur, w, hg, _, _, _ => ⟨w, cur, rfl, hg, rfl, by simp, World.grownBy.refl _ _⟩
  | v :: r, i, cur, w, hg, hl, hm, h1 => by
    have hic : s + i < cur.size := by simp at hl; omega
    have hadd : (⟨g, s, none⟩ : Addr).add i = ⟨g, s + i, none⟩ := by unfold Addr.add; split <;> simp_all
    have hc : w.cell? ⟨g, s + i, none⟩ = some cur[s + i] := by simp [World.cell?, hg, hic]
    have hf := not_marked hg (j := s + i) (by omega)
    have hW : (w.setCell ⟨g, s + i, none⟩ v).heap[g]? = some (.cells (cur.setIfInBounds (s + i) v) t (lo, hi)) := by
      have hlt := (Array.getElem?_eq_some_iff.1 hg).1
      simp [World.setCell, Array.getElem?_modify, hg]
    have hs : (store ((⟨g, s, none⟩ : Addr).add i) v).run P w = .ok () (w.setCell ⟨g, s + i, none⟩ v) := by
      rw [hadd, run_store P w _ v _ (h1 v (by simp)), hc]
      simp [hf]
    obtain ⟨w', cur', hr, hg', hsz, htk, hgr⟩ := store_marked g s t lo hi r (i + 1) (cur.setIfInBounds (s + i) v) (w.setCell ⟨g, s + i, none⟩ v) hW (by simp at hl ⊢; omega) (by simpa using hm) fun x hx => h1 x (by simp [hx])
    refine ⟨w', cur', ?_, hg', by simpa using hsz, ?_, ?_⟩
    · simp only [storeCells, Sem.run_bind, hs, Result.andThen_ok, hr]
    · rw [List.length_cons, show s + i + (r.length + 1) = s + (i + 1) + r.length by omega, htk, show s + (i + 1) = s + i + 1 by omega]
      have e : (cur.setIfInBounds (s + i) v).toList.take (s + i + 1) = cur.toList.take (s + i) ++ [v] := by
        rw [Array.toList_setIfInBounds, List.take_succ_eq_append_getElem (by simpa using hic), List.take_set_of_le (by omega)]
        simp
      rw [e]; simp
    · refine ⟨hgr.os, hgr.tape, hgr.output, ?_, fun k hk hne => ?_⟩
      · have := hgr.size
        simpa [World.setCell] using this
      · have h2 := hgr.block k (by simpa [World.setCell] using hk) hne
        rw [h2]
        exact Below.heap_setCell w _ v k (fun e => hne (by rw [e]))
/-- an append to such a row -/
theorem append_marked (base : Nat) (t ty e : TypeId) (i : TypeInfo) (z : Value) (bytes : Nat) (ht : P.underlying t = some (.slice e)) (hti : P.info? e = some i) (hz : i.zero = some z)
    (hsize : i.size = 1) (hby : i.bytes = bytes) (hzs : z.cells.size = 1) {w : World} {v : Value} {xs : List Value} (h : OwnM w base e v xs)
    (a : Addr) (m c : Nat) (news : List Value) (hl : news.length = m) (hnews : ∀ j u, news[j]? = some u → w.cell? (a.add j) = some u) (h1 : ∀ u ∈ news, u.oneCell' = true)
    (h63 : xs.length + m ≤ maxLen) (hbytes : (xs.length + m) * bytes ≤ 140737488355328) (hbase : base ≤ w.heap.size) :
    ∃ v' w', (Builtin.append_ #[t, t] ty #[v, .slice (some a) m c]).run P w = .ok v' w' ∧ OwnM w' base e v' (xs ++ news) ∧ w.grownBy w' v.ownBlock := by
  obtain ⟨g, cap, cur, lo, hi, rfl, hb, hg, hm, hn, hcm, hcs, htk⟩ := h
  by_cases hroom : xs.length + m ≤ cap
  · obtain ⟨w', cur', hr, hg', hsz, htk', hgr⟩ := store_marked (P := P) g xs.length e lo hi news 0 cur w hg (by omega) (by omega) h1
    have hf := run_firstCells_some (P := P) w i.size m a m c news (by rw [hl, hsize, Nat.mul_one]) hnews
    rw [hsize] at hf
    simp only [Nat.add_zero] at htk'
    refine ⟨.slice (some ⟨g, 0, none⟩) (xs.length + m) cap, w', ?_, ⟨g, cap, cur', lo, hi, by simp [hl], hb, hg', hm, by simp; omega, hcm, by omega, ?_⟩, hgr⟩
    · simp [Builtin.append_, run_underlying ht, sizeOf, typeInfo, hti, Builtin.lenOf, hroom, Addr.add_lit, hsize, hf, hr]
    · rw [List.length_append, htk', htk]
  · have hgrow : cap < xs.length + m := by omega
    have ho : ∀ j u, xs[j]? = some u → w.cell? ((⟨g, 0, none⟩ : Addr).add j) = some u := fun j u hj => by
      have hadd : (⟨g, 0, none⟩ : Addr).add j = ⟨g, j, none⟩ := by unfold Addr.add; split <;> simp_all
      rw [hadd, cell_of_row w g j cur e (lo, hi) hg]
      have hjl := (List.getElem?_eq_some_iff.1 hj).1
      have h2 := congrArg (·[j]?) htk
      simp only [List.getElem?_take] at h2
      rw [if_pos hjl, hj] at h2
      simpa using h2
    have hfit := growslice_fits (bytes := bytes) hgrow hbytes
    have h := run_append_grow (P := P) (w := w) t ty e i z ht hti hz ⟨g, 0, none⟩ xs.length cap xs (by rw [hsize, Nat.mul_one]) ho a m c news (by rw [hl, hsize, Nat.mul_one]) hnews hgrow (by unfold maxLen at h63; omega) (by rw [hby]; exact hfit)
    have hge := grownCap_ge w (xs.length + m) cap e
    have hle := grownCap_le_maxLen w (xs.length + m) cap e h63
    refine ⟨_, _, h, ⟨w.heap.size, grownCap w (xs.length + m) cap e, _, 0, 0, by simp [hl], hbase, heap_alloc_new w.drew _, .inr rfl, by simp [hl]; exact hge, hle, ?_, ?_⟩, ?_⟩
    · simp [size_zeroCells, hzs, hl]
      omega
    · rw [List.length_append, Array.toList_append, Array.toList_append, List.append_assoc, ← List.append_assoc]
      exact List.take_left' (by simp)
    · exact ⟨rfl, rfl, rfl, by simp, fun k hk _ => Below.heap_alloc w.drew _ k hk⟩
/-- what the conversion of a text makes -/
theorem own_made (w : World) (base : Nat) (e : TypeId) (s : ByteArray) (hb : base ≤ w.heap.size) (h63 : s.size ≤ maxLen) :
    OwnM (w.drew.alloc (.cells (bytesRow s (grownCap w s.size 0 e)) e ((bytesRow s (grownCap w s.size 0 e)).size, (bytesRow s (grownCap w s.size 0 e)).size + 1))) base e (.slice (some ⟨w.heap.size, 0, none⟩) s.size (grownCap w s.size 0 e)) (s.data.toList.map fun b => .int .u8 (b.toNat : Int)) := by
  have hge := grownCap_ge w s.size 0 e
  have hle := grownCap_le_maxLen w s.size 0 e h63
  have hsz : (bytesRow s (grownCap w s.size 0 e)).size = grownCap w s.size 0 e := by simp [bytesRow]; omega
  have hl : s.data.size = s.size := rfl
  refine ⟨w.heap.size, grownCap w s.size 0 e, _, _, _, by simp [hl], hb, heap_alloc_new w.drew _, .inl (by rw [hsz]; exact Nat.le_refl _), by simpa [hl] using hge, hle, hsz, ?_⟩
  unfold bytesRow
  rw [Array.toList_append, Array.toList_map]
  exact List.take_left
theorem OwnM.lt {w : World} {base : Nat} {e : TypeId} {v : Value} {xs : List Value} (h : OwnM w base e v xs) : ∀ k, v.ownBlock = some k → base ≤ k ∧ k < w.heap.size := by
  obtain ⟨g, cap, cur, lo, hi, rfl, hb, hg, _⟩ := h
  rintro k ⟨⟩
  exact ⟨hb, (Array.getElem?_eq_some_iff.1 hg).1⟩
/-- it stays as it is where its block stays -/
theorem OwnM.below {w w' : World} {base : Nat} {e : TypeId} {v : Value} {xs : List Value} (h : OwnM w base e v xs) (hb : Below w.heap.size w w') : OwnM w' base e v xs := by
  obtain ⟨g, cap, cur, lo, hi, hv, hb', hg, rest⟩ := h
  exact ⟨g, cap, cur, lo, hi, hv, hb', (hb.block g (Array.getElem?_eq_some_iff.1 hg).1).trans hg, rest⟩
theorem OwnM.alloc {w : World} {base : Nat} {e : TypeId} {v : Value} {xs : List Value} (h : OwnM w base e v xs) (o : Obj) : OwnM (w.alloc o) base e v xs := h.below ((Below.refl _ _).alloc (Nat.le_refl _) _)
theorem OwnM.grown {A w w3 : World} {e : TypeId} {v : Value} {xs : List Value} (h : OwnM w A.heap.size e v xs) (hB : Below A.heap.size A w) (o : Obj) (hg : (w.alloc o).grownBy w3 v.ownBlock) : Below A.heap.size A w3 := by
  have h1 : Below A.heap.size A (w.alloc o) := hB.alloc hB.size _
  exact h1.grown hg (by have := hB.size; simp; omega) (fun k e => (h.lt k e).1)
theorem wpList_append_marked {ops : Array Oper} {rest : List Oper} {o : Oper} {a : Act} {Q : Exit → Act → World → Prop} (w : World) (hgd : o.guard = none) (s x : Operand) (t : TypeId)
    (ho : o.op = .call { callee := .builtin .append, args := #[s, x], argTypes := #[t, t] }) (base : Nat) (e : TypeId) (i : TypeInfo) (z : Value) (bytes : Nat) (ht : P.underlying t = some (.slice e)) (hti : P.info? e = some i) (hz : i.zero = some z)
    (hsize : i.size = 1) (hby : i.bytes = bytes) (hzs : z.cells.size = 1) (v : Value) (xs : List Value) (hs : a.eval s = v) (hown : OwnM w base e v xs)
    (ad : Addr) (m c : Nat) (news : List Value) (hx : a.eval x = .slice (some ad) m c) (hl : news.length = m) (hnews : ∀ j u, news[j]? = some u → w.cell? (ad.add j) = some u) (h1 : ∀ u ∈ news, u.oneCell' = true)
    (h63 : xs.length + m ≤ maxLen) (hbytes : (xs.length + m) * bytes ≤ 140737488355328) (hbase : base ≤ w.heap.size)
    (h : ∀ v' w', OwnM w' base e v' (xs ++ news) → w.grownBy w' v.ownBlock → wpList P ops Q rest (a.put o.dst v') w') : wpList P ops Q (o :: rest) a w := by
  refine wpList_plain hgd fun _ hK => ?_
  obtain ⟨v', w', hr, h2, h3⟩ := append_marked (P := P) base t o.type e i z bytes ht hti hz hsize hby hzs hown ad m c news hl hnews h1 h63 hbytes hbase
  unfold Oper.wp execOp
  simp only [ho, resolve, invoke, builtin, Sem.run_bind, Sem.run_pure, Result.andThen_ok, List.map_toArray, List.map_cons, List.map_nil, hs, hx, hr]
  exact hK _ _ (h v' w' h2 h3)
theorem OwnM.drew {w : World} {base : Nat} {e : TypeId} {v : Value} {xs : List Value} (h : OwnM w base e v xs) : OwnM w.drew base e v xs := h
/-- .. at a step of a region that draws its order -/
theorem step_append_marked {ops : Array Oper} {o : Oper} {a : Act} {K : Act → World → Prop} {Q : Exit → Act → World → Prop} {E : Prop} (w : World) (hgd : o.guard = none) (s x : Operand) (t : TypeId)
    (ho : o.op = .call { callee := .builtin .append, args := #[s, x], argTypes := #[t, t] }) (base : Nat) (e : TypeId) (i : TypeInfo) (z : Value) (bytes : Nat) (ht : P.underlying t = some (.slice e)) (hti : P.info? e = some i) (hz : i.zero = some z)
    (hsize : i.size = 1) (hby : i.bytes = bytes) (hzs : z.cells.size = 1) (v : Value) (xs : List Value) (hs : a.eval s = v) (hown : OwnM w base e v xs)
    (ad : Addr) (m c : Nat) (news : List Value) (hx : a.eval x = .slice (some ad) m c) (hl : news.length = m) (hnews : ∀ j u, news[j]? = some u → w.cell? (ad.add j) = some u) (h1 : ∀ u ∈ news, u.oneCell' = true)
    (h63 : xs.length + m ≤ maxLen) (hbytes : (xs.length + m) * bytes ≤ 140737488355328) (hbase : base ≤ w.heap.size)
    (h : ∀ v' w', OwnM w' base e v' (xs ++ news) → w.grownBy w' v.ownBlock → K (a.put o.dst v') w') :
    if Region.wanted o (yielded ops a.tmps) = true then Oper.wp P o a w K Q else E := by
  have hw : Region.wanted o (yielded ops a.tmps) = true := by simp [Region.wanted, hgd]
  rw [if_pos hw]
  obtain ⟨v', w', hr, h2, h3⟩ := append_marked (P := P) base t o.type e i z bytes ht hti hz hsize hby hzs hown ad m c news hl hnews h1 h63 hbytes hbase
  unfold Oper.wp execOp
  simp only [ho, resolve, invoke, builtin, Sem.run_bind, Sem.run_pure, Result.andThen_ok, List.map_toArray, List.map_cons, List.map_nil, hs, hx, hr]
  exact h v' w' h2 h3
end
end Go.Proofs.YtchfbpgbojnakaaDoor
/- Rasters: a file is written, the document's own Write. -/

namespace Go.Proofs.YtchfbpgbojnakaaDoor
open Go.RowKit

theorem OwnM.rd {w : World} {base : Nat} {e : TypeId} {v : Value} {xs : List Value} (h : OwnM w base e v xs) : ∃ p cap, v = .slice p xs.length cap ∧ RdV w w.heap.size p xs := by
  obtain ⟨g, cap, cur, lo, hi, rfl, hb, hg, hm, hn, hcm, hcs, htk⟩ := h
  refine ⟨_, _, rfl, fun _ => ⟨g, 0, rfl, (Array.getElem?_eq_some_iff.1 hg).1, fun j hj => ?_⟩⟩
  rw [Nat.zero_add, cell_of_row w g j cur e (lo, hi) hg]
  have h2 := congrArg (·[j]?) htk
  simp only [List.getElem?_take] at h2
  rw [if_pos hj, List.getElem?_eq_getElem hj] at h2
  simpa using h2
theorem head_len (x y : Int) (hx : -9223372036854775808 ≤ x ∧ x ≤ 9223372036854775807) (hy : -9223372036854775808 ≤ y ∧ y ≤ 9223372036854775807) : (headOf x y).length ≤ 200 := by
  have h1 := wtext_short hx.1 hx.2
  have h2 := wtext_short hy.1 hy.2
  simp [headOf]
  omega
theorem body_step (h : By) (l : List Col) (i : Nat) (hi : i < l.length) : bcells (h ++ bodyOf (l.take (i + 1))) = bcells (h ++ bodyOf (l.take i)) ++ [.int .u8 (l[i].r.toNat : Int), .int .u8 (l[i].g.toNat : Int), .int .u8 (l[i].b.toNat : Int), .int .u8 (l[i].a.toNat : Int)] := by
  rw [List.take_succ_eq_append_getElem hi, bodyOf_snoc]
  simp [bcells]
theorem grown_drew {w w' : World} {row : Option Nat} (h : w.drew.grownBy w' row) : w.grownBy w' row := ⟨h.os, h.tape, h.output, h.size, h.block⟩
theorem info_u8P : (Tryd.prog.info? 5).map (fun i => (i.zero, i.size, i.bytes)) = some (some (.int .u8 0), 1, 1) := by kernel_rfl

set_option maxRecDepth 10000 in
set_option maxHeartbeats 3200000 in
theorem ref9_WriteOk (r : Ras) (p : Option Addr) (c : Nat) (hR : RMay r) (w : World) (hq : RdV w w.heap.size p (rowCells r.pix)) :
    Calls Tryd.prog 8 #[rasV r p c] w fun e w' => (∃ p c, e = .returned (.tuple #[.slice p (fileOf r).length c, .int .i64 0]) ∧ RdV w' w'.heap.size p (bcells (fileOf r))) ∧ Below w.heap.size w w' := by
  have hR' : RasOk r := by obtain ⟨⟨a1, a2⟩, ⟨a3, a4⟩, a5⟩ := hR; have := side_mul ⟨a1, a2⟩ ⟨a3, a4⟩; exact ⟨⟨by omega, by omega⟩, ⟨by omega, by omega⟩, by omega⟩
  obtain ⟨i0, hi, hz0, hz1, hz2⟩ := info_parts info_u8P
  have cM := fun V => ref9_May r p c hR' V
  have cH := fun V => ref9_Head r.w r.h hR'.1 hR'.2.1 V
  have hcv := fun w s => run_bytes_of_string (P := Tryd.prog) w 9 25 5 s Tryd.underlying9 Tryd.underlying25 Tryd.underlying5
  rw [show mayR r = true by simp [mayR, hR]] at cM
  obtain ⟨W, hW, HK⟩ : ∃ W, (w.alloc (.cells #[.int .i64 r.w, .int .i64 r.h, .slice p r.pix.length c] 24)) = W ∧ Hid (Box W w.heap.size 24 [.int .i64 r.w, .int .i64 r.h, .slice p r.pix.length c] ∧ Below w.heap.size w W) :=
    ⟨_, rfl, Lib.hid ⟨Box.new w _ [.int .i64 r.w, .int .i64 r.h, .slice p r.pix.length c], (Below.refl _ _).alloc (Nat.le_refl _) _⟩⟩
  obtain ⟨s, hs⟩ : ∃ s, str (headOf r.w r.h) = s := ⟨_, rfl⟩
  rw [hs] at cH
  replace hW := Lib.hid hW
  replace hq := Lib.hid hq
  replace hR := Lib.hid (And.intro hR hR')
  replace hs := Lib.hid hs
  clear hR'
  unfold rasV at *
  replace cM := Lib.hid cM
  replace cH := Lib.hid cH
  go_enter Tryd.func8, Tryd.ntmps8
  go_wp2_with first
    | (go_at_call 18; rw [hW.out]; with_reducible refine Calls.mono (cM.out _) ?_; rintro e w1 ⟨rfl, b1⟩
       have hk1 := Lib.hid (HK.out.1.below b1 HK.out.1.lt)
       have hk3 := Lib.hid (HK.out.2.trans (b1.mono HK.out.2.size))
       clear b1
       obtain ⟨z0, z1, z2⟩ := Box.three hk1.out)
    | (go_at_call 24; with_reducible refine Calls.mono (cH.out _) ?_; rintro e w2 ⟨rfl, b2⟩
       replace hk1 := Lib.hid (hk1.out.below b2 hk1.out.lt)
       replace hk3 := Lib.hid (hk3.out.trans (b2.mono hk3.out.size))
       clear b2 z0 z1 z2
       obtain ⟨z0, z1, z2⟩ := Box.three hk1.out)
  have hhl := Lib.hid (head_len r.w r.h hR.out.2.1 hR.out.2.2.1)
  have hn4 : r.pix.length ≤ 4096 := by have := hR.out.1.2.2; have := side_mul hR.out.1.1 hR.out.1.2.1; omega
  have hss : s.data.toList = headOf r.w r.h := by rw [← hs.out]; simp [str]
  have hsl : s.size ≤ maxLen := by
    have h1 := hhl.out
    have h2 : s.data.toList.length = s.size := by rw [Array.length_toList]; rfl
    rw [hss] at h2
    unfold maxLen
    omega
  have HO := Lib.hid (show OwnM (w2.alloc (.cells (bytesRow s (grownCap w2 s.size 0 5)) 5 ((bytesRow s (grownCap w2 s.size 0 5)).size, (bytesRow s (grownCap w2 s.size 0 5)).size + 1))).drew w2.heap.size 5 (.slice (some ⟨w2.heap.size, 0, none⟩) s.size (grownCap w2 s.size 0 5)) (bcells (headOf r.w r.h ++ bodyOf (r.pix.take 0))) ∧ Below w2.heap.size w2 (w2.alloc (.cells (bytesRow s (grownCap w2 s.size 0 5)) 5 ((bytesRow s (grownCap w2 s.size 0 5)).size, (bytesRow s (grownCap w2 s.size 0 5)).size + 1))).drew from by
    have h := own_made w2 w2.heap.size 5 s (Nat.le_refl _) hsl
    rw [hss] at h
    have e0 : bcells (headOf r.w r.h ++ bodyOf (r.pix.take 0)) = (headOf r.w r.h).map (fun b => .int .u8 (b.toNat : Int)) := by simp [bcells, bodyOf]
    rw [e0]
    exact ⟨h, ((Below.refl _ _).alloc (Nat.le_refl _) _).drew⟩)
  generalize (w2.alloc (.cells (bytesRow s (grownCap w2 s.size 0 5)) 5 ((bytesRow s (grownCap w2 s.size 0 5)).size, (bytesRow s (grownCap w2 s.size 0 5)).size + 1))).drew = w3 at HO ⊢
  generalize Value.slice (some ⟨w2.heap.size, 0, none⟩) s.size (grownCap w2 s.size 0 5) = v3 at HO ⊢
  obtain ⟨n, hn⟩ : ∃ n, r.pix.length = n := ⟨_, rfl⟩
  rw [hn] at hn4 hk1 z2 ⊢
  replace hn := Lib.hid hn
  clear z0 z1 z2 hss hsl cM cH HK
  go_loopg [4, 5] n (fun gh vv it wr => ∃ i : Nat, it = .int .i64 (i : Int) ∧ gh + i = n ∧ OwnM wr w2.heap.size 5 vv (bcells (headOf r.w r.h ++ bodyOf (r.pix.take i))) ∧ Below w2.heap.size w2 wr)
  case atStart => exact ⟨0, rfl, by omega, HO.out.1, HO.out.2⟩
  case round =>
    obtain ⟨i, rfl, hg, ho, hB⟩ := hrel
    obtain ⟨z0, z1, z2⟩ := Box.three (hk1.out.below hB hk1.out.lt)
    replace ho := Lib.hid ho
    replace hB := Lib.hid hB
    by_cases hlt : i < n
    · have hil : (i : Int) < (n : Int) := by omega
      have hw0 := hk3.out.trans (hB.out.mono hk3.out.size)
      obtain ⟨g, o, rfl, hgl, e0, e1, e2, e3⟩ := (hq.out.below hw0).col (i := i) (by rw [hn.out]; exact hlt)
      clear hw0
      have hlen : (bcells (headOf r.w r.h ++ bodyOf (r.pix.take i))).length ≤ 20000 := by
        rw [bcells_length, List.length_append, bodyOf_length, List.length_take]
        have := hhl.out
        omega
      have hnx := Lib.hid (show bcells (headOf r.w r.h ++ bodyOf (r.pix.take (i + 1))) = bcells (headOf r.w r.h ++ bodyOf (r.pix.take i)) ++ _ from body_step (headOf r.w r.h) r.pix i (by rw [hn.out]; exact hlt))
      generalize r.pix[i]'(by rw [hn.out]; exact hlt) = cc at e0 e1 e2 e3 hnx
      go_wp2_with fail
      have hwl := hk1.out.lt
      have hwr := hB.out.size
      have aw : u4.ownBlock ≠ some w.heap.size := fun e => by have := (ho.out.lt _ e).1; omega
      have ag : u4.ownBlock ≠ some g := fun e => by have := (ho.out.lt _ e).1; omega
      go_region_held3 (fun w' => w'.cell? ⟨w.heap.size, 2, none⟩ = some (.slice (some ⟨g, o, none⟩) n c) ∧ w'.cell? ⟨g, o + i * 4, none⟩ = some (.int .u8 (cc.r.toNat : Int)) ∧ w'.cell? ⟨g, o + i * 4 + 1, none⟩ = some (.int .u8 (cc.g.toNat : Int)) ∧ w'.cell? ⟨g, o + i * 4 + 2, none⟩ = some (.int .u8 (cc.b.toNat : Int)) ∧ w'.cell? ⟨g, o + i * 4 + 3, none⟩ = some (.int .u8 (cc.a.toNat : Int)))
        (first
          | go_keep
          | (go_split_ands
             refine ⟨?_, ?_, ?_, ?_, ?_⟩
             · (rw [hgrow.cell_far _ (by simp; omega) (Ne.symm aw)]; assumption)
             · (rw [hgrow.cell_far _ (by simp; omega) (Ne.symm ag)]; assumption)
             · (rw [hgrow.cell_far _ (by simp; omega) (Ne.symm ag)]; assumption)
             · (rw [hgrow.cell_far _ (by simp; omega) (Ne.symm ag)]; assumption)
             · (rw [hgrow.cell_far _ (by simp; omega) (Ne.symm ag)]; assumption)))
        ((refine step_append_marked _ (by rfl) _ _ _ (by rfl) w2.heap.size 5 i0 _ 1 Tryd.underlying25 hi hz0 hz1 hz2 rfl u4 _ (by rfl) ((ho.out.alloc _).drew)
            ⟨wr.heap.size, 0, none⟩ 4 4 [.int .u8 (cc.r.toNat : Int), .int .u8 (cc.g.toNat : Int), .int .u8 (cc.b.toNat : Int), .int .u8 (cc.a.toNat : Int)] (by rfl) (by rfl) (four_new _ _ _ _ _ _) (by simp [Value.oneCell'])
            (by unfold maxLen; omega) (by omega) (by have := hB.out.size; simp; omega) ?_; intro v' w5 hown' hgrow))
      have HG := Lib.hid hgrow
      have HN := Lib.hid hown'
      clear hgrow hown' aw ag hwl hwr z2 e0 e1 e2 e3
      go_wp2_with fail
      go_roundg (n - (i + 1))
      case measure => omega
      case rel => exact ⟨i + 1, by simp, by omega, by rw [hnx.out]; exact HN.out, OwnM.grown ho.out hB.out _ (grown_drew HG.out)⟩
    · obtain rfl : i = n := by omega
      have hfin : r.pix.take i = r.pix := List.take_of_length_le (by rw [hn.out]; exact Nat.le_refl _)
      have ho' := ho.out
      rw [hfin] at ho'
      obtain ⟨p', c', rfl, hrd⟩ := ho'.rd
      have HF := Lib.hid hrd
      clear hrd ho ho' hfin
      go_wp2_with fail
      go_ret2
      refine ⟨⟨p', c', ?_, HF.out⟩, hk3.out.trans (hB.out.mono hk3.out.size)⟩
      rw [bcells_length]; rfl

set_option maxRecDepth 10000 in
theorem ref9_WriteNo (r : Ras) (p : Option Addr) (c : Nat) (hR' : RasOk r) (hR : ¬ RMay r) (w : World) :
    Calls Tryd.prog 8 #[rasV r p c] w fun e w' => e = .returned (.tuple #[.slice none 0 0, .int .i64 2]) ∧ Below w.heap.size w w' := by
  have cM := fun V => ref9_May r p c hR' V
  rw [show mayR r = false by simp [mayR, hR]] at cM
  obtain ⟨W, hW, HK⟩ : ∃ W, (w.alloc (.cells #[.int .i64 r.w, .int .i64 r.h, .slice p r.pix.length c] 24)) = W ∧ Hid (Below w.heap.size w W) :=
    ⟨_, rfl, Lib.hid ((Below.refl _ _).alloc (Nat.le_refl _) _)⟩
  replace hW := Lib.hid hW
  replace hR := Lib.hid hR
  clear hR'
  unfold rasV at *
  replace cM := Lib.hid cM
  go_enter Tryd.func8, Tryd.ntmps8
  go_wp2_with (go_at_call 18; rw [hW.out]; with_reducible refine Calls.mono (cM.out _) ?_; rintro e w1 ⟨rfl, b1⟩)
  go_ret2
  exact ⟨rfl, HK.out.trans (b1.mono HK.out.size)⟩
def writeB (r : Ras) : By := if RMay r then fileOf r else []
def writeE (r : Ras) : Int := if RMay r then 0 else 2
theorem ref9_Write (r : Ras) (p : Option Addr) (c : Nat) (hR : RasOk r) (w : World) (hq : RdV w w.heap.size p (rowCells r.pix)) :
    Calls Tryd.prog 8 #[rasV r p c] w fun e w' => (∃ p c, e = .returned (.tuple #[.slice p (writeB r).length c, .int .i64 (writeE r)]) ∧ RdV w' w'.heap.size p (bcells (writeB r))) ∧ Below w.heap.size w w' := by
  unfold writeB writeE
  by_cases h : RMay r
  · rw [if_pos h, if_pos h]
    exact ref9_WriteOk r p c h w hq
  · rw [if_neg h, if_neg h]
    refine Calls.mono (ref9_WriteNo r p c hR h w) ?_
    rintro e w' ⟨rfl, hb⟩
    exact ⟨⟨none, 0, rfl, RdV.nil _ _ _⟩, hb⟩
end Go.Proofs.YtchfbpgbojnakaaDoor
