/- Spots: boxes of six cells, shapes of what is handed in and out. -/
import Derived.Test.YtbgjpmijegeeiaaZFpV
import Derived.Test.YtbgjpmijegeeiaaZFpW
import Derived.Deep.RegionHeld3
import Derived.Deep.RegionWith
namespace Go.Proofs.Ytbgjpmijegeeiaa
open Go.RowKit Num

/-- a cell's facts of six -/
theorem Blk.facts6 {w : World} {g : Nat} {t : TypeId} {a0 a1 a2 a3 a4 a5 : Value} (h : Blk w g t [a0, a1, a2, a3, a4, a5]) : (w.cell? ⟨g, 0, none⟩ = some a0 ∧ w.cell? ⟨g, 1, none⟩ = some a1 ∧ w.cell? ⟨g, 2, none⟩ = some a2 ∧ w.cell? ⟨g, 3, none⟩ = some a3 ∧ w.cell? ⟨g, 4, none⟩ = some a4 ∧ w.cell? ⟨g, 5, none⟩ = some a5) ∧ (w.frozen? ⟨g, 0, none⟩ = false ∧ w.frozen? ⟨g, 1, none⟩ = false ∧ w.frozen? ⟨g, 2, none⟩ = false ∧ w.frozen? ⟨g, 3, none⟩ = false ∧ w.frozen? ⟨g, 4, none⟩ = false ∧ w.frozen? ⟨g, 5, none⟩ = false) :=
  ⟨⟨h.cell 0 rfl, h.cell 1 rfl, h.cell 2 rfl, h.cell 3 rfl, h.cell 4 rfl, h.cell 5 rfl⟩, h.frozen 0, h.frozen 1, h.frozen 2, h.frozen 3, h.frozen 4, h.frozen 5⟩
theorem kept6 {W V : World} {g : Nat} {t : TypeId} {a0 a1 a2 a3 a4 a5 : Value} (k : Blk W g t [a0, a1, a2, a3, a4, a5]) (hb : Below W.heap.size W V) : V.cell? ⟨g, 0, none⟩ = some a0 ∧ V.cell? ⟨g, 1, none⟩ = some a1 ∧ V.cell? ⟨g, 2, none⟩ = some a2 ∧ V.cell? ⟨g, 3, none⟩ = some a3 ∧ V.cell? ⟨g, 4, none⟩ = some a4 ∧ V.cell? ⟨g, 5, none⟩ = some a5 := (k.on hb).facts6.1
/-- words that are read stay when a block's cells are stored that holds no integers -/
theorem Num.Rd.off {w U : World} {g : Nat} {t : TypeId} {vs : List Value} {k : IntKind} {A : Option Addr} {xs : List Nat} (h : Rd w (fun g => g < w.heap.size) k A xs) (f : Blk w g t vs) (hv : ∀ v ∈ vs, ∀ kk n, v ≠ .int kk n) (hU : ∀ b, b ≠ g → U.heap[b]? = w.heap[b]?) (hs : w.heap.size ≤ U.heap.size) : Rd U (fun g => g < U.heap.size) k A xs := fun hn => by
  obtain ⟨b, o, e, hb, hc⟩ := h hn
  have hne : b ≠ g := by
    rintro rfl
    have h0 := hc 0 hn
    rw [cell_of_row _ _ _ _ _ _ f] at h0
    have hm : (Value.int k (xs[0] : Int)) ∈ vs := by
      have := List.mem_of_getElem? (by simpa using h0 : vs[o]? = some (Value.int k (xs[0] : Int)))
      exact this
    exact hv _ hm _ _ rfl
  refine ⟨b, o, e, Nat.lt_of_lt_of_le hb hs, fun j hj => ?_⟩
  rw [← hc j hj]
  exact World.cell?_of_block (hU b hne)
theorem heap_six (w : World) (g : Nat) (u0 u1 u2 u3 u4 u5 : Value) (b : Nat) (hb : b ≠ g) : ((((((w.setCell ⟨g, 0, none⟩ u0).setCell ⟨g, 1, none⟩ u1).setCell ⟨g, 2, none⟩ u2).setCell ⟨g, 3, none⟩ u3).setCell ⟨g, 4, none⟩ u4).setCell ⟨g, 5, none⟩ u5).heap[b]? = w.heap[b]? :=
  (Below.heap_setCell _ _ u5 b hb).trans ((Below.heap_setCell _ _ u4 b hb).trans ((Below.heap_setCell _ _ u3 b hb).trans ((Below.heap_setCell _ _ u2 b hb).trans ((Below.heap_setCell _ _ u1 b hb).trans (Below.heap_setCell _ _ u0 b hb)))))
theorem Blk.six {w : World} {g : Nat} {t : TypeId} {a0 a1 a2 a3 a4 a5 : Value} (h : Blk w g t [a0, a1, a2, a3, a4, a5]) (u0 u1 u2 u3 u4 u5 : Value) : Blk ((((((w.setCell ⟨g, 0, none⟩ u0).setCell ⟨g, 1, none⟩ u1).setCell ⟨g, 2, none⟩ u2).setCell ⟨g, 3, none⟩ u3).setCell ⟨g, 4, none⟩ u4).setCell ⟨g, 5, none⟩ u5) g t [u0, u1, u2, u3, u4, u5] :=
  (((((h.set 0 u0).set 1 u1).set 2 u2).set 3 u3).set 4 u4).set 5 u5
theorem size_six (w : World) (g : Nat) (u0 u1 u2 u3 u4 u5 : Value) : ((((((w.setCell ⟨g, 0, none⟩ u0).setCell ⟨g, 1, none⟩ u1).setCell ⟨g, 2, none⟩ u2).setCell ⟨g, 3, none⟩ u3).setCell ⟨g, 4, none⟩ u4).setCell ⟨g, 5, none⟩ u5).heap.size = w.heap.size := by simp [World.setCell]
theorem below_six {B : Nat} {a w : World} (h : Below B a w) {g : Nat} (hg : B ≤ g) (u0 u1 u2 u3 u4 u5 : Value) : Below B a ((((((w.setCell ⟨g, 0, none⟩ u0).setCell ⟨g, 1, none⟩ u1).setCell ⟨g, 2, none⟩ u2).setCell ⟨g, 3, none⟩ u3).setCell ⟨g, 4, none⟩ u4).setCell ⟨g, 5, none⟩ u5) :=
  (((((h.setCell (p := ⟨g, 0, none⟩) hg u0).setCell (p := ⟨g, 1, none⟩) hg u1).setCell (p := ⟨g, 2, none⟩) hg u2).setCell (p := ⟨g, 3, none⟩) hg u3).setCell (p := ⟨g, 4, none⟩) hg u4).setCell (p := ⟨g, 5, none⟩) hg u5
theorem no_ints {x y : Bool} {p q r s : Option Addr} {i0 i1 i2 i3 i4 i5 i6 i7 : Nat} : ∀ v ∈ [Value.bool x, .slice p i0 i1, .slice q i2 i3, .bool y, .slice r i4 i5, .slice s i6 i7], ∀ kk n, v ≠ .int kk n := by
  intro v hv kk n h
  subst h
  simp at hv
theorem Num.Rd.six {w : World} {g : Nat} {t : TypeId} {x y : Bool} {p q r s : Option Addr} {i0 i1 i2 i3 i4 i5 i6 i7 : Nat} {k : IntKind} {A : Option Addr} {xs : List Nat} (h : Rd w (fun g => g < w.heap.size) k A xs) (f : Blk w g t [.bool x, .slice p i0 i1, .slice q i2 i3, .bool y, .slice r i4 i5, .slice s i6 i7]) (u0 u1 u2 u3 u4 u5 : Value) : Rd ((((((w.setCell ⟨g, 0, none⟩ u0).setCell ⟨g, 1, none⟩ u1).setCell ⟨g, 2, none⟩ u2).setCell ⟨g, 3, none⟩ u3).setCell ⟨g, 4, none⟩ u4).setCell ⟨g, 5, none⟩ u5) (fun b => b < ((((((w.setCell ⟨g, 0, none⟩ u0).setCell ⟨g, 1, none⟩ u1).setCell ⟨g, 2, none⟩ u2).setCell ⟨g, 3, none⟩ u3).setCell ⟨g, 4, none⟩ u4).setCell ⟨g, 5, none⟩ u5).heap.size) k A xs :=
  h.off f no_ints (fun b hb => heap_six w g u0 u1 u2 u3 u4 u5 b hb) (Nat.le_of_eq (size_six w g u0 u1 u2 u3 u4 u5).symm)

/-- a spot that a call hands back -/
def Gs (S T : Shape) (w : World) (e : Ending) (w' : World) : Prop :=
  ∃ n1 a1 A1 c1 d1 D1 e1 n2 a2 A2 c2 d2 D2 e2, e = .returned (.agg #[.bool n1, .slice A1 a1.length c1, .slice D1 d1.length e1, .bool n2, .slice A2 a2.length c2, .slice D2 d2.length e2]) ∧ (S n1 a1 c1 d1 e1 ∧ T n2 a2 c2 d2 e2) ∧
    (Rd w' (fun g => g < w'.heap.size) .u32 A1 a1 ∧ Rd w' (fun g => g < w'.heap.size) .u32 D1 d1) ∧ (Rd w' (fun g => g < w'.heap.size) .u32 A2 a2 ∧ Rd w' (fun g => g < w'.heap.size) .u32 D2 d2) ∧ Below w.heap.size w w'
theorem Gs.imp {S T S' T' : Shape} {w w' : World} {e : Ending} (hs : ∀ n a ca d cd, S n a ca d cd → S' n a ca d cd) (ht : ∀ n a ca d cd, T n a ca d cd → T' n a ca d cd) (h : Gs S T w e w') : Gs S' T' w e w' := by
  obtain ⟨n1, a1, A1, c1, d1, D1, e1, n2, a2, A2, c2, d2, D2, e2, rfl, h1, h2⟩ := h
  exact ⟨n1, a1, A1, c1, d1, D1, e1, n2, a2, A2, c2, d2, D2, e2, rfl, ⟨hs _ _ _ _ _ h1.1, ht _ _ _ _ _ h1.2⟩, h2⟩
/-- a spot stored where the result lies -/
theorem fin_spot {w v : World} {g : Nat} {t : TypeId} (k : Blk v g t [.bool false, .slice none 0 0, .slice none 0 0, .bool false, .slice none 0 0, .slice none 0 0]) (hg : w.heap.size ≤ g) (B : Below w.heap.size w v) {S T : Shape} {n1 n2 : Bool} {A1 D1 A2 D2 : Option Addr} {a1 d1 a2 d2 : List Nat} {c1 e1 c2 e2 : Nat} (hs : S n1 a1 c1 d1 e1) (ht : T n2 a2 c2 d2 e2) (r1 : Rd v (fun g => g < v.heap.size) .u32 A1 a1) (q1 : Rd v (fun g => g < v.heap.size) .u32 D1 d1) (r2 : Rd v (fun g => g < v.heap.size) .u32 A2 a2) (q2 : Rd v (fun g => g < v.heap.size) .u32 D2 d2) :
    ∃ U, ((((((v.setCell ⟨g, 0, none⟩ (.bool n1)).setCell ⟨g, 1, none⟩ (.slice A1 a1.length c1)).setCell ⟨g, 2, none⟩ (.slice D1 d1.length e1)).setCell ⟨g, 3, none⟩ (.bool n2)).setCell ⟨g, 4, none⟩ (.slice A2 a2.length c2)).setCell ⟨g, 5, none⟩ (.slice D2 d2.length e2)) = U ∧ (U.cell? ⟨g, 0, none⟩ = some (.bool n1) ∧ U.cell? ⟨g, 1, none⟩ = some (.slice A1 a1.length c1) ∧ U.cell? ⟨g, 2, none⟩ = some (.slice D1 d1.length e1) ∧ U.cell? ⟨g, 3, none⟩ = some (.bool n2) ∧ U.cell? ⟨g, 4, none⟩ = some (.slice A2 a2.length c2) ∧ U.cell? ⟨g, 5, none⟩ = some (.slice D2 d2.length e2)) ∧ Gs S T w (.returned (.agg #[.bool n1, .slice A1 a1.length c1, .slice D1 d1.length e1, .bool n2, .slice A2 a2.length c2, .slice D2 d2.length e2])) U := by
  have K := k.six (.bool n1) (.slice A1 a1.length c1) (.slice D1 d1.length e1) (.bool n2) (.slice A2 a2.length c2) (.slice D2 d2.length e2)
  exact ⟨_, rfl, K.facts6.1, n1, a1, A1, c1, d1, D1, e1, n2, a2, A2, c2, d2, D2, e2, rfl, ⟨hs, ht⟩, ⟨r1.six k _ _ _ _ _ _, q1.six k _ _ _ _ _ _⟩, ⟨r2.six k _ _ _ _ _ _, q2.six k _ _ _ _ _ _⟩, below_six B hg _ _ _ _ _ _⟩
/-- boxes -/
theorem bxa (w : World) (t : TypeId) (vs : List Value) : ∃ W, w.alloc (.cells vs.toArray t) = W ∧ Blk W w.heap.size t vs ∧ Below w.heap.size w W ∧ W.heap.size = w.heap.size + 1 :=
  ⟨_, rfl, Blk.new w t vs, below_one w _, by simp⟩
theorem bxb (w : World) (t t' : TypeId) (vs vs' : List Value) : ∃ W, (w.alloc (.cells vs.toArray t)).alloc (.cells vs'.toArray t') = W ∧ Blk W w.heap.size t vs ∧ Blk W (w.heap.size + 1) t' vs' ∧ Below w.heap.size w W ∧ W.heap.size = w.heap.size + 2 := by
  obtain ⟨V, hV, k, b, s⟩ := bxa w t vs
  rw [hV]
  exact ⟨_, rfl, k.alloc _, Blk.at_new V t' vs' (by rw [s]), b.trans ((below_one V _).mono (by omega)), by simp [s]⟩
theorem bxc (w : World) (t t' t'' : TypeId) (vs vs' vs'' : List Value) : ∃ W, ((w.alloc (.cells vs.toArray t)).alloc (.cells vs'.toArray t')).alloc (.cells vs''.toArray t'') = W ∧ Blk W w.heap.size t vs ∧ Blk W (w.heap.size + 1) t' vs' ∧ Blk W (w.heap.size + 1 + 1) t'' vs'' ∧ Below w.heap.size w W ∧ W.heap.size = w.heap.size + 3 := by
  obtain ⟨V, hV, k, k', b, s⟩ := bxb w t t' vs vs'
  rw [hV]
  exact ⟨_, rfl, k.alloc _, k'.alloc _, Blk.at_new V t'' vs'' (by rw [s]), b.trans ((below_one V _).mono (by omega)), by simp [s]⟩
theorem bxd (w : World) (t t' t'' t3 : TypeId) (vs vs' vs'' v3 : List Value) : ∃ W, (((w.alloc (.cells vs.toArray t)).alloc (.cells vs'.toArray t')).alloc (.cells vs''.toArray t'')).alloc (.cells v3.toArray t3) = W ∧ Blk W w.heap.size t vs ∧ Blk W (w.heap.size + 1) t' vs' ∧ Blk W (w.heap.size + 1 + 1) t'' vs'' ∧ Blk W (w.heap.size + 1 + 1 + 1) t3 v3 ∧ Below w.heap.size w W ∧ W.heap.size = w.heap.size + 4 := by
  obtain ⟨V, hV, k, k', k'', b, s⟩ := bxc w t t' t'' vs vs' vs''
  rw [hV]
  exact ⟨_, rfl, k.alloc _, k'.alloc _, k''.alloc _, Blk.at_new V t3 v3 (by rw [s]), b.trans ((below_one V _).mono (by omega)), by simp [s]⟩
/-- what lies elsewhere when six cells are stored -/
theorem Blk.off6 {v : World} {g g' : Nat} {t : TypeId} {vs : List Value} (k : Blk v g t vs) (hne : g ≠ g') (u0 u1 u2 u3 u4 u5 : Value) : Blk ((((((v.setCell ⟨g', 0, none⟩ u0).setCell ⟨g', 1, none⟩ u1).setCell ⟨g', 2, none⟩ u2).setCell ⟨g', 3, none⟩ u3).setCell ⟨g', 4, none⟩ u4).setCell ⟨g', 5, none⟩ u5) g t vs :=
  (((((k.far (p := ⟨g', 0, none⟩) hne u0).far (p := ⟨g', 1, none⟩) hne u1).far (p := ⟨g', 2, none⟩) hne u2).far (p := ⟨g', 3, none⟩) hne u3).far (p := ⟨g', 4, none⟩) hne u4).far (p := ⟨g', 5, none⟩) hne u5
theorem far66 {v : World} {g g' : Nat} {t : TypeId} {a0 a1 a2 a3 a4 a5 : Value} (k : Blk v g t [a0, a1, a2, a3, a4, a5]) (hne : g ≠ g') (u0 u1 u2 u3 u4 u5 : Value) : ((((((v.setCell ⟨g', 0, none⟩ u0).setCell ⟨g', 1, none⟩ u1).setCell ⟨g', 2, none⟩ u2).setCell ⟨g', 3, none⟩ u3).setCell ⟨g', 4, none⟩ u4).setCell ⟨g', 5, none⟩ u5).cell? ⟨g, 0, none⟩ = some a0 ∧ ((((((v.setCell ⟨g', 0, none⟩ u0).setCell ⟨g', 1, none⟩ u1).setCell ⟨g', 2, none⟩ u2).setCell ⟨g', 3, none⟩ u3).setCell ⟨g', 4, none⟩ u4).setCell ⟨g', 5, none⟩ u5).cell? ⟨g, 1, none⟩ = some a1 ∧ ((((((v.setCell ⟨g', 0, none⟩ u0).setCell ⟨g', 1, none⟩ u1).setCell ⟨g', 2, none⟩ u2).setCell ⟨g', 3, none⟩ u3).setCell ⟨g', 4, none⟩ u4).setCell ⟨g', 5, none⟩ u5).cell? ⟨g, 2, none⟩ = some a2 ∧ ((((((v.setCell ⟨g', 0, none⟩ u0).setCell ⟨g', 1, none⟩ u1).setCell ⟨g', 2, none⟩ u2).setCell ⟨g', 3, none⟩ u3).setCell ⟨g', 4, none⟩ u4).setCell ⟨g', 5, none⟩ u5).cell? ⟨g, 3, none⟩ = some a3 ∧ ((((((v.setCell ⟨g', 0, none⟩ u0).setCell ⟨g', 1, none⟩ u1).setCell ⟨g', 2, none⟩ u2).setCell ⟨g', 3, none⟩ u3).setCell ⟨g', 4, none⟩ u4).setCell ⟨g', 5, none⟩ u5).cell? ⟨g, 4, none⟩ = some a4 ∧ ((((((v.setCell ⟨g', 0, none⟩ u0).setCell ⟨g', 1, none⟩ u1).setCell ⟨g', 2, none⟩ u2).setCell ⟨g', 3, none⟩ u3).setCell ⟨g', 4, none⟩ u4).setCell ⟨g', 5, none⟩ u5).cell? ⟨g, 5, none⟩ = some a5 := (k.off6 hne u0 u1 u2 u3 u4 u5).facts6.1
theorem far36 {v : World} {g g' : Nat} {t : TypeId} {a0 a1 a2 : Value} (k : Blk v g t [a0, a1, a2]) (hne : g ≠ g') (u0 u1 u2 u3 u4 u5 : Value) : ((((((v.setCell ⟨g', 0, none⟩ u0).setCell ⟨g', 1, none⟩ u1).setCell ⟨g', 2, none⟩ u2).setCell ⟨g', 3, none⟩ u3).setCell ⟨g', 4, none⟩ u4).setCell ⟨g', 5, none⟩ u5).cell? ⟨g, 0, none⟩ = some a0 ∧ ((((((v.setCell ⟨g', 0, none⟩ u0).setCell ⟨g', 1, none⟩ u1).setCell ⟨g', 2, none⟩ u2).setCell ⟨g', 3, none⟩ u3).setCell ⟨g', 4, none⟩ u4).setCell ⟨g', 5, none⟩ u5).cell? ⟨g, 1, none⟩ = some a1 ∧ ((((((v.setCell ⟨g', 0, none⟩ u0).setCell ⟨g', 1, none⟩ u1).setCell ⟨g', 2, none⟩ u2).setCell ⟨g', 3, none⟩ u3).setCell ⟨g', 4, none⟩ u4).setCell ⟨g', 5, none⟩ u5).cell? ⟨g, 2, none⟩ = some a2 :=
  ⟨(k.off6 hne u0 u1 u2 u3 u4 u5).facts.1, (k.off6 hne u0 u1 u2 u3 u4 u5).facts.2.1, (k.off6 hne u0 u1 u2 u3 u4 u5).facts.2.2.1⟩
theorem far26 {v : World} {g g' : Nat} {t : TypeId} {a0 a1 : Value} (k : Blk v g t [a0, a1]) (hne : g ≠ g') (u0 u1 u2 u3 u4 u5 : Value) : ((((((v.setCell ⟨g', 0, none⟩ u0).setCell ⟨g', 1, none⟩ u1).setCell ⟨g', 2, none⟩ u2).setCell ⟨g', 3, none⟩ u3).setCell ⟨g', 4, none⟩ u4).setCell ⟨g', 5, none⟩ u5).cell? ⟨g, 0, none⟩ = some a0 ∧ ((((((v.setCell ⟨g', 0, none⟩ u0).setCell ⟨g', 1, none⟩ u1).setCell ⟨g', 2, none⟩ u2).setCell ⟨g', 3, none⟩ u3).setCell ⟨g', 4, none⟩ u4).setCell ⟨g', 5, none⟩ u5).cell? ⟨g, 1, none⟩ = some a1 :=
  ⟨(k.off6 hne u0 u1 u2 u3 u4 u5).facts2.1, (k.off6 hne u0 u1 u2 u3 u4 u5).facts2.2.1⟩
theorem kept2 {W V : World} {g : Nat} {t : TypeId} {a0 a1 : Value} (k : Blk W g t [a0, a1]) (hb : Below W.heap.size W V) : V.cell? ⟨g, 0, none⟩ = some a0 ∧ V.cell? ⟨g, 1, none⟩ = some a1 := ⟨(k.on hb).facts2.1, (k.on hb).facts2.2.1⟩
/-- a call's contract, in shapes: of three -/
abbrev Fn3 (f : FuncId) (S1 S2 S3 T : Shape) : Prop := ∀ (n1 n2 n3 : Bool) (a1 d1 a2 d2 a3 d3 : List Nat) (A1 D1 A2 D2 A3 D3 : Option Addr) (c1 e1 c2 e2 c3 e3 : Nat) (w : World), S1 n1 a1 c1 d1 e1 → S2 n2 a2 c2 d2 e2 → S3 n3 a3 c3 d3 e3 → Rd w (fun g => g < w.heap.size) .u32 A1 a1 → Rd w (fun g => g < w.heap.size) .u32 D1 d1 → Rd w (fun g => g < w.heap.size) .u32 A2 a2 → Rd w (fun g => g < w.heap.size) .u32 D2 d2 → Rd w (fun g => g < w.heap.size) .u32 A3 a3 → Rd w (fun g => g < w.heap.size) .u32 D3 d3 → Calls Try.prog f #[.agg #[.bool n1, .slice A1 a1.length c1, .slice D1 d1.length e1], .agg #[.bool n2, .slice A2 a2.length c2, .slice D2 d2.length e2], .agg #[.bool n3, .slice A3 a3.length c3, .slice D3 d3.length e3]] w (Gv T w)
theorem Blk.off3 {v : World} {g g' : Nat} {t : TypeId} {vs : List Value} (k : Blk v g t vs) (hne : g ≠ g') (u0 u1 u2 : Value) : Blk (((v.setCell ⟨g', 0, none⟩ u0).setCell ⟨g', 1, none⟩ u1).setCell ⟨g', 2, none⟩ u2) g t vs :=
  ((k.far (p := ⟨g', 0, none⟩) hne u0).far (p := ⟨g', 1, none⟩) hne u1).far (p := ⟨g', 2, none⟩) hne u2
theorem far33 {v : World} {g g' : Nat} {t : TypeId} {a0 a1 a2 : Value} (k : Blk v g t [a0, a1, a2]) (hne : g ≠ g') (u0 u1 u2 : Value) : (((v.setCell ⟨g', 0, none⟩ u0).setCell ⟨g', 1, none⟩ u1).setCell ⟨g', 2, none⟩ u2).cell? ⟨g, 0, none⟩ = some a0 ∧ (((v.setCell ⟨g', 0, none⟩ u0).setCell ⟨g', 1, none⟩ u1).setCell ⟨g', 2, none⟩ u2).cell? ⟨g, 1, none⟩ = some a1 ∧ (((v.setCell ⟨g', 0, none⟩ u0).setCell ⟨g', 1, none⟩ u1).setCell ⟨g', 2, none⟩ u2).cell? ⟨g, 2, none⟩ = some a2 :=
  ⟨(k.off3 hne u0 u1 u2).facts.1, (k.off3 hne u0 u1 u2).facts.2.1, (k.off3 hne u0 u1 u2).facts.2.2.1⟩
theorem far63 {v : World} {g g' : Nat} {t : TypeId} {a0 a1 a2 a3 a4 a5 : Value} (k : Blk v g t [a0, a1, a2, a3, a4, a5]) (hne : g ≠ g') (u0 u1 u2 : Value) : (((v.setCell ⟨g', 0, none⟩ u0).setCell ⟨g', 1, none⟩ u1).setCell ⟨g', 2, none⟩ u2).cell? ⟨g, 0, none⟩ = some a0 ∧ (((v.setCell ⟨g', 0, none⟩ u0).setCell ⟨g', 1, none⟩ u1).setCell ⟨g', 2, none⟩ u2).cell? ⟨g, 1, none⟩ = some a1 ∧ (((v.setCell ⟨g', 0, none⟩ u0).setCell ⟨g', 1, none⟩ u1).setCell ⟨g', 2, none⟩ u2).cell? ⟨g, 2, none⟩ = some a2 ∧ (((v.setCell ⟨g', 0, none⟩ u0).setCell ⟨g', 1, none⟩ u1).setCell ⟨g', 2, none⟩ u2).cell? ⟨g, 3, none⟩ = some a3 ∧ (((v.setCell ⟨g', 0, none⟩ u0).setCell ⟨g', 1, none⟩ u1).setCell ⟨g', 2, none⟩ u2).cell? ⟨g, 4, none⟩ = some a4 ∧ (((v.setCell ⟨g', 0, none⟩ u0).setCell ⟨g', 1, none⟩ u1).setCell ⟨g', 2, none⟩ u2).cell? ⟨g, 5, none⟩ = some a5 := (k.off3 hne u0 u1 u2).facts6.1
end Go.Proofs.Ytbgjpmijegeeiaa
/- Spots, the program's own: what counted, times, gap and product answer. -/

namespace Go.Proofs.Ytbgjpmijegeeiaa
open Go.RowKit Num

/-- a whole number of value N, of at most k words -/
def HW (N : Int) (k : Nat) (n : Bool) (a : List Nat) (ca : Nat) : Prop := a.length ≤ ca ∧ Dg 4294967296 a ∧ a.length ≤ k ∧ wv n a = N
def HD (D k : Nat) (d : List Nat) (cd : Nat) : Prop := d.length ≤ cd ∧ Dg 4294967296 d ∧ d.length ≤ k ∧ val 4294967296 d = D
def GvW (N : Int) (k : Nat) (w : World) (e : Ending) (w' : World) : Prop :=
  ∃ n a A c, e = .returned (.agg #[.bool n, .slice A a.length c]) ∧ HW N k n a c ∧ Rd w' (fun g => g < w'.heap.size) .u32 A a ∧ Below w.heap.size w w'
theorem gvw_of {N : Int} {k : Nat} {w w' : World} {e : Ending} (hN : N.natAbs < 4294967296 ^ k) (h : GivesW N w e w') : GvW N k w e w' := by
  obtain ⟨A, xs, c, rfl, hc, hn, hv, r, b⟩ := h
  exact ⟨_, xs, A, c, rfl, ⟨hc, hn.1, hn.2.length_le (b := 4294967296) (by omega) (by rw [hv]; exact hN), wv_dec hv⟩, r, b⟩
theorem HW.lt {N : Int} {k : Nat} {n : Bool} {a : List Nat} {ca : Nat} (h : HW N k n a ca) : N.natAbs < 4294967296 ^ k := by
  rw [← h.2.2.2, wv_abs]
  exact Nat.lt_of_lt_of_le (val_lt h.2.1) (Nat.pow_le_pow_right (by omega) h.2.2.1)
theorem HD.lt {D k : Nat} {d : List Nat} {cd : Nat} (h : HD D k d cd) : D < 4294967296 ^ k := by
  rw [← h.2.2.2]
  exact Nat.lt_of_lt_of_le (val_lt h.2.1) (Nat.pow_le_pow_right (by omega) h.2.2.1)
theorem mulI_lt {M N : Int} {i j k : Nat} (h : M.natAbs < 4294967296 ^ i) (h' : N.natAbs < 4294967296 ^ j) (hk : i + j ≤ k) : (M * N).natAbs < 4294967296 ^ k := by
  rw [Int.natAbs_mul]
  exact prod_lt h (Nat.le_of_lt h') hk
/-- a whole number stored where the result lies -/
theorem fin_gvw {w v : World} {g : Nat} {t : TypeId} (k : Blk v g t [.bool false, .slice none 0 0]) (hg : w.heap.size ≤ g) (B : Below w.heap.size w v) {N : Int} {m : Nat} {n : Bool} {A : Option Addr} {a : List Nat} {c : Nat} (hs : HW N m n a c) (r : Rd v (fun g => g < v.heap.size) .u32 A a) :
    ∃ U, (v.setCell ⟨g, 0, none⟩ (.bool n)).setCell ⟨g, 1, none⟩ (.slice A a.length c) = U ∧ (U.cell? ⟨g, 0, none⟩ = some (.bool n) ∧ U.cell? ⟨g, 1, none⟩ = some (.slice A a.length c)) ∧ GvW N m w (.returned (.agg #[.bool n, .slice A a.length c])) U := by
  have K := k.pair (.bool n) (.slice A a.length c)
  exact ⟨_, rfl, ⟨K.cell 0 rfl, K.cell 1 rfl⟩, n, a, A, c, rfl, hs, r.far2 k _ _, (B.setCell (p := ⟨g, 0, none⟩) hg _).setCell (p := ⟨g, 1, none⟩) hg _⟩
theorem HD.toW {D k : Nat} {d : List Nat} {cd : Nat} (h : HD D k d cd) : HW (D : Int) k false d cd := ⟨h.1, h.2.1, h.2.2.1, by rw [wv_false, h.2.2.2]⟩

end Go.Proofs.Ytbgjpmijegeeiaa
/- Spots, the program's own: what hold, reduced, At, halfWay, Mid, along and Toward answer. -/

namespace Go.Proofs.Ytbgjpmijegeeiaa
open Go.RowKit Num

end Go.Proofs.Ytbgjpmijegeeiaa
/- Rows of spots in memory: a row that a call made, and what append leaves of it. -/

namespace Go.Proofs.Ytbgjpmijegeeiaa
open Go.RowKit Num

/-- no integer among them -/
def NoInt (cs : List Value) : Prop := ∀ v ∈ cs, ∀ k n, v ≠ .int k n
theorem NoInt.append {a b : List Value} (ha : NoInt a) (hb : NoInt b) : NoInt (a ++ b) := fun v hv => by
  rcases List.mem_append.1 hv with h | h
  · exact ha v h
  · exact hb v h
/-- a slice of spots in a block of its own, in which no integer lies -/
def OwnS (w : World) (base : Nat) (v : Value) (n : Nat) (xs : List Value) : Prop :=
  xs.length = n * 6 ∧ NoInt xs ∧ ((v = .slice none 0 0 ∧ n = 0) ∨
    ∃ g cap cur, v = .slice (some ⟨g, 0, none⟩) n cap ∧ base ≤ g ∧ w.heap[g]? = some (.cells cur 85 (0, 0)) ∧ n ≤ cap ∧ cap ≤ maxLen ∧ cur.size = cap * 6 ∧ cur.toList.take (n * 6) = xs ∧ NoInt cur.toList)
theorem OwnS.nil (w : World) (base : Nat) : OwnS w base (.slice none 0 0) 0 [] := ⟨rfl, fun v h => by simp at h, .inl ⟨rfl, rfl⟩⟩
theorem OwnS.lt {w : World} {base : Nat} {v : Value} {n : Nat} {xs : List Value} (h : OwnS w base v n xs) : ∀ k, v.ownBlock = some k → base ≤ k ∧ k < w.heap.size := by
  intro k hk
  rcases h.2.2 with ⟨rfl, _⟩ | ⟨g, cap, cur, rfl, hb, hg, _⟩
  · simp [Value.ownBlock] at hk
  · simp [Value.ownBlock] at hk
    subst hk
    exact ⟨hb, (Array.getElem?_eq_some_iff.1 hg).1⟩
/-- what another call leaves of it -/
theorem OwnS.kept {w w' : World} {base : Nat} {v : Value} {n : Nat} {xs : List Value} (h : OwnS w base v n xs) (hb : Below w.heap.size w w') : OwnS w' base v n xs := by
  refine ⟨h.1, h.2.1, ?_⟩
  rcases h.2.2 with hn | ⟨g, cap, cur, rfl, hbg, hg, rest⟩
  · exact .inl hn
  · exact .inr ⟨g, cap, cur, rfl, hbg, (hb.block g (Array.getElem?_eq_some_iff.1 hg).1).trans hg, rest⟩
theorem OwnS.mono {w : World} {base base' : Nat} {v : Value} {n : Nat} {xs : List Value} (h : OwnS w base v n xs) (hb : base' ≤ base) : OwnS w base' v n xs := by
  refine ⟨h.1, h.2.1, ?_⟩
  rcases h.2.2 with hn | ⟨g, cap, cur, rfl, hbg, rest⟩
  · exact .inl hn
  · exact .inr ⟨g, cap, cur, rfl, Nat.le_trans hb hbg, rest⟩
/-- its cells -/
theorem OwnS.cell {w : World} {base g cap : Nat} {n : Nat} {xs : List Value} (h : OwnS w base (.slice (some ⟨g, 0, none⟩) n cap) n xs) (j : Nat) {u : Value} (hu : xs[j]? = some u) : w.cell? ⟨g, j, none⟩ = some u := by
  rcases h.2.2 with ⟨e, _⟩ | ⟨g', cap', cur, e, _, hg, _, _, _, htake, _⟩
  · cases e
  · simp only [Value.slice.injEq, Option.some.injEq, Addr.mk.injEq, and_true, true_and] at e
    obtain ⟨rfl, rfl⟩ := e
    rw [cell_of_row w g j cur _ (0, 0) hg]
    rw [← htake, List.getElem?_take] at hu
    split at hu
    · simpa using hu
    · cases hu
/-- words that are read stay when the row grows -/
theorem OwnS.rd {w w' : World} {base : Nat} {v : Value} {n : Nat} {xs : List Value} (h : OwnS w base v n xs) (hg : w.grownBy w' v.ownBlock) {k : IntKind} {A : Option Addr} {ys : List Nat} (r : Rd w (fun b => b < w.heap.size) k A ys) : Rd w' (fun b => b < w'.heap.size) k A ys := fun hn => by
  obtain ⟨b, o, e, hb, hc⟩ := r hn
  have hne : some b ≠ v.ownBlock := by
    intro eb
    rcases h.2.2 with ⟨rfl, _⟩ | ⟨g, cap, cur, rfl, _, hgg, _, _, _, _, hno⟩
    · simp [Value.ownBlock] at eb
    · simp only [Value.ownBlock, Option.some.injEq] at eb
      subst eb
      have h0 := hc 0 hn
      rw [cell_of_row w b _ cur _ (0, 0) hgg] at h0
      exact hno _ (Array.mem_toList_iff.2 (Array.mem_of_getElem? h0)) _ _ rfl
  refine ⟨b, o, e, Nat.lt_of_lt_of_le hb hg.size, fun j hj => ?_⟩
  rw [← hc j hj]
  exact World.cell?_of_block (hg.block b hb hne)
theorem info_spot : (Try.prog.info? 85).map (fun i => (i.zero, i.size, i.bytes)) = some (some (.agg #[.bool false, .slice none 0 0, .slice none 0 0, .bool false, .slice none 0 0, .slice none 0 0]), 6, 112) := by kernel_rfl
theorem zeroCells_noint {z : Array Value} (hz : NoInt z.toList) (n : Nat) : NoInt (Builtin.zeroCells z n).toList := by
  intro v hv
  unfold Builtin.zeroCells at hv
  simp only [Array.toList_map, List.mem_map, Array.toList_range, List.mem_range] at hv
  obtain ⟨i, hi, rfl⟩ := hv
  have hp : 0 < z.size := by
    rcases Nat.eq_zero_or_pos z.size with h | h
    · rw [h] at hi; simp at hi
    · exact h
  have hm := Nat.mod_lt i hp
  rw [getElem!_pos z (i % z.size) hm]
  exact hz _ (Array.mem_toList_iff.2 (Array.getElem_mem hm))
/-- one spot more: what append leaves -/
theorem run_append_sp (w : World) (base : Nat) (ty : TypeId) (v : Value) (n : Nat) (xs : List Value) (hown : OwnS w base v n xs) (a : Addr) (news : List Value) (hl : news.length = 6) (hnews : ∀ j u, news[j]? = some u → w.cell? (a.add j) = some u) (h1 : ∀ u ∈ news, u.oneCell' = true) (hno : NoInt news) (hn : n ≤ 1073741824) (hbase : base ≤ w.heap.size) :
    ∃ v' w', (Builtin.append_ #[78, 78] ty #[v, .slice (some a) 1 1]).run Try.prog w = .ok v' w' ∧ OwnS w' base v' (n + 1) (xs ++ news) ∧ w.grownBy w' v.ownBlock := by
  obtain ⟨i, hi, hz, hsize, hby⟩ := info_parts info_spot
  have ht := Try.underlying78
  have hzs : NoInt (#[Value.bool false, .slice none 0 0, .slice none 0 0, .bool false, .slice none 0 0, .slice none 0 0] : Array Value).toList := fun v hv k n e => by subst e; simp at hv
  have hcells : (Value.agg #[.bool false, .slice none 0 0, .slice none 0 0, .bool false, .slice none 0 0, .slice none 0 0]).cells = #[.bool false, .slice none 0 0, .slice none 0 0, .bool false, .slice none 0 0, .slice none 0 0] := rfl
  have hlen : (xs ++ news).length = (n + 1) * 6 := by rw [List.length_append, hown.1, hl]; omega
  have hall : NoInt (xs ++ news) := hown.2.1.append hno
  have h63 : n + 1 ≤ maxLen := by unfold maxLen; omega
  have grown : ∀ (old : Nat) (row : Option Nat),
      OwnS (w.drew.alloc (.cells (xs.toArray ++ news.toArray ++ Builtin.zeroCells (Value.agg #[.bool false, .slice none 0 0, .slice none 0 0, .bool false, .slice none 0 0, .slice none 0 0]).cells (grownCap w (n + 1) old 85 - (n + 1))) 85)) base (.slice (some ⟨w.heap.size, 0, none⟩) (n + 1) (grownCap w (n + 1) old 85)) (n + 1) (xs ++ news) ∧
      w.grownBy (w.drew.alloc (.cells (xs.toArray ++ news.toArray ++ Builtin.zeroCells (Value.agg #[.bool false, .slice none 0 0, .slice none 0 0, .bool false, .slice none 0 0, .slice none 0 0]).cells (grownCap w (n + 1) old 85 - (n + 1))) 85)) row := by
    intro old row
    have hge := grownCap_ge w (n + 1) old 85
    have hcm := grownCap_le_maxLen w (n + 1) old 85 h63
    rw [hcells]
    refine ⟨⟨hlen, hall, .inr ⟨w.heap.size, _, _, rfl, hbase, heap_alloc_new w.drew _, hge, hcm, ?_, ?_, ?_⟩⟩, ⟨rfl, rfl, rfl, by simp, fun k hk _ => heap_alloc_old w.drew _ hk⟩⟩
    · simp only [Array.size_append, List.size_toArray, size_zeroCells, hown.1, hl]
      simp
      omega
    · simp only [Array.toList_append, List.append_assoc]
      rw [← List.append_assoc, ← hlen]
      exact List.take_left
    · simp only [Array.toList_append]
      exact hall.append (zeroCells_noint hzs _)
  rcases hown.2.2 with ⟨rfl, rfl⟩ | ⟨g, cap, cur, rfl, hbg, hg, hnc, hcm, hcs, htake, hni⟩
  · have hx : xs = [] := List.eq_nil_of_length_eq_zero (by simpa using hown.1)
    subst hx
    have hr := run_append_nil (P := Try.prog) w 78 ty 85 i _ ht hi hz a 1 1 news (by rw [hl, hsize]) hnews (by omega) (by omega) (by rw [hby]; omega)
    have hgr := grown 0 (Value.ownBlock (.slice none 0 0))
    simp only [Nat.zero_add, List.nil_append, Array.empty_append] at hgr ⊢
    exact ⟨_, _, hr, hgr.1, hgr.2⟩
  · by_cases hroom : n + 1 ≤ cap
    · have hfit : n * i.size + news.length ≤ cur.size := by rw [hl, hsize, hcs]; omega
      have hr := run_append_room (P := Try.prog) w 78 ty 85 i ht hi g n cap cur hg a 1 1 news (by rw [hl, hsize]) hnews h1 hroom hfit
      rw [hsize] at hr
      refine ⟨_, _, hr, ⟨hlen, hall, .inr ⟨g, cap, _, rfl, hbg, setRow_heap w g cur _ _ _ hg, hroom, hcm, ?_, ?_, ?_⟩⟩, ⟨rfl, rfl, rfl, by simp, fun k _ hk => setRow_other w g k _ (fun e => hk (by simp [Value.ownBlock, e]))⟩⟩
      · simp only [List.size_toArray, List.length_append, List.length_take, List.length_drop, Array.length_toList]
        omega
      · rw [htake, ← hlen]
        exact List.take_left
      · rw [htake]
        exact hall.append fun v hv => hni v (List.mem_of_mem_drop hv)
    · have holds : ∀ j u, xs[j]? = some u → w.cell? ((⟨g, 0, none⟩ : Addr).add j) = some u := fun j u hu => by
        have hadd : (⟨g, 0, none⟩ : Addr).add j = ⟨g, j, none⟩ := by unfold Addr.add; split <;> simp_all
        rw [hadd]
        have := hown.2.2
        exact OwnS.cell (base := base) (cap := cap) hown j hu
      have hr := run_append_grow (P := Try.prog) w 78 ty 85 i _ ht hi hz ⟨g, 0, none⟩ n cap xs (by rw [hsize]; exact hown.1) holds a 1 1 news (by rw [hl, hsize]) hnews (by omega) (by omega) (growslice_fits (by omega) (by rw [hby]; omega))
      have hgr := grown cap (Value.ownBlock (.slice (some ⟨g, 0, none⟩) n cap))
      exact ⟨_, _, hr, hgr.1, hgr.2⟩
theorem wpList_append_sp {ops : Array Oper} {rest : List Oper} {o : Oper} {a : Act} {Q : Exit → Act → World → Prop} (w : World) (hgd : o.guard = none) (s x : Operand)
    (ho : o.op = .call { callee := .builtin .append, args := #[s, x], argTypes := #[78, 78] }) (base : Nat) (v : Value) (n : Nat) (xs : List Value) (hs : a.eval s = v) (hown : OwnS w base v n xs)
    (ad : Addr) (news : List Value) (hx : a.eval x = .slice (some ad) 1 1) (hl : news.length = 6) (hnews : ∀ j u, news[j]? = some u → w.cell? (ad.add j) = some u) (h1 : ∀ u ∈ news, u.oneCell' = true) (hno : NoInt news) (hn : n ≤ 1073741824) (hbase : base ≤ w.heap.size)
    (h : ∀ v' w', OwnS w' base v' (n + 1) (xs ++ news) → w.grownBy w' v.ownBlock → wpList Try.prog ops Q rest (a.put o.dst v') w') : wpList Try.prog ops Q (o :: rest) a w := by
  refine wpList_plain hgd fun _ hK => ?_
  obtain ⟨v', w', hr, h2, h3⟩ := run_append_sp w base o.type v n xs hown ad news hl hnews h1 hno hn hbase
  unfold Oper.wp execOp
  simp only [ho, resolve, invoke, builtin, Sem.run_bind, Sem.run_pure, Result.andThen_ok, List.map_toArray, List.map_cons, List.map_nil, hs, hx, hr]
  exact hK _ _ (h v' w' h2 h3)
end Go.Proofs.Ytbgjpmijegeeiaa
/- Spots, the document's own: what At, clean and Toward answer. -/

namespace Go.Proofs.Ytbgjpmijegeeiaa
open Go.RowKit Num

set_option maxRecDepth 10000 in
set_option maxHeartbeats 3200000 in
/-- a point of the grid -/
theorem ref5_At (S50 S51 : Shape)  (x y : Int) (x0 : ∀ V : World, Calls Try.prog 40 #[.int .i64 x] V (Gv S50 V)) (x1 : ∀ V : World, Calls Try.prog 40 #[.int .i64 y] V (Gv S51 V)) (w : World)   :
    Calls Try.prog 38 #[.agg #[.int .i64 x, .int .i64 y]] w (Gs S50 S51 w) := by
  obtain ⟨W, hW, k100, kr, b0, s0⟩ := bxb w 42 85 [.int .i64 x, .int .i64 y] [.bool false, .slice none 0 0, .slice none 0 0, .bool false, .slice none 0 0, .slice none 0 0]
  obtain ⟨p00, p01, -, -⟩ := k100.facts2
  have C0 := Lib.hid (fun (V : World) => x0 V)
  have C1 := Lib.hid (fun (V : World) => x1 V)
  have HK0 := Lib.hid k100
  have HKR := Lib.hid kr
  have HB0 := Lib.hid b0
  have K0 : Below W.heap.size W W.drew := below_drewN (Below.refl _ _) 1
  have hlt : w.heap.size + 1 < W.heap.size := by omega
  clear k100 kr b0 s0  x0 x1
  go_enter Try.func38, Try.ntmps38
  go_wp2_with fail
  try rw [hW]
  clear hW
  go_region_held3 (fun w' => (w'.cell? ⟨w.heap.size, 0, none⟩ = some (.int .i64 x) ∧ w'.cell? ⟨w.heap.size, 1, none⟩ = some (.int .i64 y)))
    (first | (with_reducible exact kept2 HK0.out K0) | (with_reducible exact kept2 HK0.out K1) | (with_reducible exact kept2 HK0.out K2) | (with_reducible exact far26 (HK0.out.below K2 HK0.out.lt) (by omega) _ _ _ _ _ _ ) | go_keep)
    ((first
      | (go_at_call_of 40 (Value.int .i64 x); (with_reducible refine Calls.mono (C0.out _) ?_); rintro e w1 ⟨n50, a50, A50, c50, d50, D50, e50, rfl, s50, r50, q50, b1⟩; have K1 := below_next K0 (Nat.le_refl _) b1)
      | (go_at_call_of 40 (Value.int .i64 y); (with_reducible refine Calls.mono (C1.out _) ?_); rintro e w2 ⟨n51, a51, A51, c51, d51, D51, e51, rfl, s51, r51, q51, b2⟩; have K2 := below_next K1 (Nat.le_refl _) b2; obtain ⟨⟨i0, i1, i2, i3, i4, i5⟩, ⟨j0, j1, j2, j3, j4, j5⟩⟩ := (HKR.out.below K2 HKR.out.lt).facts6)))
  obtain ⟨U, hU, ⟨u0, u1, u2, u3, u4, u5⟩, hG⟩ := fin_spot (w := w) (HKR.out.below K2 HKR.out.lt) (by omega) (HB0.out.trans (K2.mono HB0.out.size)) s50 s51 (r50.on b2) (q50.on b2) r51 q51
  have HU := Lib.hid hU
  have HF := Lib.hid (And.intro u0 (And.intro u1 (And.intro u2 (And.intro u3 (And.intro u4 u5)))))
  have HG := Lib.hid hG
  clear hU u0 u1 u2 u3 u4 u5 hG i0 i1 i2 i3 i4 i5 j0 j1 j2 j3 j4 j5 C0 C1 s50 r50 q50 s51 r51 q51
  go_wp2_with fail
  rw [HU.out]
  obtain ⟨u0, u1, u2, u3, u4, u5⟩ := HF.out
  exact bodyPost_ret (by simp [results, Try.results38, go_sem, u0, u1, u2, u3, u4, u5]) rfl HG.out

set_option maxRecDepth 10000 in
set_option maxHeartbeats 12800000 in
/-- a, and t times the way -/
theorem ref5_Toward (S1 S2 S3 S4 S5 S50 S51 S52 S53 S54 S55 : Shape) (x0 : Fn2 66 S3 S1 S50) (x1 : Fn2 65 S5 S50 S51) (x2 : Fn2 54 S1 S51 S52) (x3 : Fn2 66 S4 S2 S53) (x4 : Fn2 65 S5 S53 S54) (x5 : Fn2 54 S2 S54 S55) (n1 n2 n3 n4 n5 : Bool) (a1 d1 a2 d2 a3 d3 a4 d4 a5 d5 : List Nat) (A1 D1 A2 D2 A3 D3 A4 D4 A5 D5 : Option Addr) (c1 e1 c2 e2 c3 e3 c4 e4 c5 e5 : Nat)  (w : World) (s1 : S1 n1 a1 c1 d1 e1) (s2 : S2 n2 a2 c2 d2 e2) (s3 : S3 n3 a3 c3 d3 e3) (s4 : S4 n4 a4 c4 d4 e4) (s5 : S5 n5 a5 c5 d5 e5) (r1 : Rd w (fun g => g < w.heap.size) .u32 A1 a1) (q1 : Rd w (fun g => g < w.heap.size) .u32 D1 d1) (r2 : Rd w (fun g => g < w.heap.size) .u32 A2 a2) (q2 : Rd w (fun g => g < w.heap.size) .u32 D2 d2) (r3 : Rd w (fun g => g < w.heap.size) .u32 A3 a3) (q3 : Rd w (fun g => g < w.heap.size) .u32 D3 d3) (r4 : Rd w (fun g => g < w.heap.size) .u32 A4 a4) (q4 : Rd w (fun g => g < w.heap.size) .u32 D4 d4) (r5 : Rd w (fun g => g < w.heap.size) .u32 A5 a5) (q5 : Rd w (fun g => g < w.heap.size) .u32 D5 d5) :
    Calls Try.prog 51 #[.agg #[.bool n1, .slice A1 a1.length c1, .slice D1 d1.length e1, .bool n2, .slice A2 a2.length c2, .slice D2 d2.length e2], .agg #[.bool n3, .slice A3 a3.length c3, .slice D3 d3.length e3, .bool n4, .slice A4 a4.length c4, .slice D4 d4.length e4], .agg #[.bool n5, .slice A5 a5.length c5, .slice D5 d5.length e5]] w (Gs S52 S55 w) := by
  obtain ⟨W, hW, k100, k101, k102, kr, b0, s0⟩ := bxd w 85 85 83 85 [.bool n1, .slice A1 a1.length c1, .slice D1 d1.length e1, .bool n2, .slice A2 a2.length c2, .slice D2 d2.length e2] [.bool n3, .slice A3 a3.length c3, .slice D3 d3.length e3, .bool n4, .slice A4 a4.length c4, .slice D4 d4.length e4] [.bool n5, .slice A5 a5.length c5, .slice D5 d5.length e5] [.bool false, .slice none 0 0, .slice none 0 0, .bool false, .slice none 0 0, .slice none 0 0]
  obtain ⟨⟨p00, p01, p02, p03, p04, p05⟩, -⟩ := k100.facts6
  obtain ⟨⟨p10, p11, p12, p13, p14, p15⟩, -⟩ := k101.facts6
  obtain ⟨p20, p21, p22, -, -, -⟩ := k102.facts
  have C0 := Lib.hid (fun (V : World) (hV : Below W.heap.size W V) => x0 n3 n1 a3 d3 a1 d1 A3 D3 A1 D1 c3 e3 c1 e1 V s3 s1 ((r3.on b0).on hV) ((q3.on b0).on hV) ((r1.on b0).on hV) ((q1.on b0).on hV))
  have C1 := Lib.hid (fun (V : World) (hV : Below W.heap.size W V) (n50 : Bool) (a50 d50 : List Nat) (A50 D50 : Option Addr) (c50 e50 : Nat) (s50 : S50 n50 a50 c50 d50 e50) (r50 : Rd V (fun g => g < V.heap.size) .u32 A50 a50) (q50 : Rd V (fun g => g < V.heap.size) .u32 D50 d50) => x1 n5 n50 a5 d5 a50 d50 A5 D5 A50 D50 c5 e5 c50 e50 V s5 s50 ((r5.on b0).on hV) ((q5.on b0).on hV) r50 q50)
  have C2 := Lib.hid (fun (V : World) (hV : Below W.heap.size W V) (n51 : Bool) (a51 d51 : List Nat) (A51 D51 : Option Addr) (c51 e51 : Nat) (s51 : S51 n51 a51 c51 d51 e51) (r51 : Rd V (fun g => g < V.heap.size) .u32 A51 a51) (q51 : Rd V (fun g => g < V.heap.size) .u32 D51 d51) => x2 n1 n51 a1 d1 a51 d51 A1 D1 A51 D51 c1 e1 c51 e51 V s1 s51 ((r1.on b0).on hV) ((q1.on b0).on hV) r51 q51)
  have C3 := Lib.hid (fun (V : World) (hV : Below W.heap.size W V) => x3 n4 n2 a4 d4 a2 d2 A4 D4 A2 D2 c4 e4 c2 e2 V s4 s2 ((r4.on b0).on hV) ((q4.on b0).on hV) ((r2.on b0).on hV) ((q2.on b0).on hV))
  have C4 := Lib.hid (fun (V : World) (hV : Below W.heap.size W V) (n53 : Bool) (a53 d53 : List Nat) (A53 D53 : Option Addr) (c53 e53 : Nat) (s53 : S53 n53 a53 c53 d53 e53) (r53 : Rd V (fun g => g < V.heap.size) .u32 A53 a53) (q53 : Rd V (fun g => g < V.heap.size) .u32 D53 d53) => x4 n5 n53 a5 d5 a53 d53 A5 D5 A53 D53 c5 e5 c53 e53 V s5 s53 ((r5.on b0).on hV) ((q5.on b0).on hV) r53 q53)
  have C5 := Lib.hid (fun (V : World) (hV : Below W.heap.size W V) (n54 : Bool) (a54 d54 : List Nat) (A54 D54 : Option Addr) (c54 e54 : Nat) (s54 : S54 n54 a54 c54 d54 e54) (r54 : Rd V (fun g => g < V.heap.size) .u32 A54 a54) (q54 : Rd V (fun g => g < V.heap.size) .u32 D54 d54) => x5 n2 n54 a2 d2 a54 d54 A2 D2 A54 D54 c2 e2 c54 e54 V s2 s54 ((r2.on b0).on hV) ((q2.on b0).on hV) r54 q54)
  have HK0 := Lib.hid k100
  have HK1 := Lib.hid k101
  have HK2 := Lib.hid k102
  have HKR := Lib.hid kr
  have HB0 := Lib.hid b0
  have K0 : Below W.heap.size W W.drew := below_drewN (Below.refl _ _) 1
  have hlt : w.heap.size + 3 < W.heap.size := by omega
  clear k100 k101 k102 kr b0 s0 s1 r1 q1 s2 r2 q2 s3 r3 q3 s4 r4 q4 s5 r5 q5 x0 x1 x2 x3 x4 x5
  go_enter Try.func51, Try.ntmps51
  go_wp2_with fail
  try rw [hW]
  clear hW
  go_region_held3 (fun w' => (w'.cell? ⟨w.heap.size, 0, none⟩ = some (.bool n1) ∧ w'.cell? ⟨w.heap.size, 1, none⟩ = some (.slice A1 a1.length c1) ∧ w'.cell? ⟨w.heap.size, 2, none⟩ = some (.slice D1 d1.length e1) ∧ w'.cell? ⟨w.heap.size, 3, none⟩ = some (.bool n2) ∧ w'.cell? ⟨w.heap.size, 4, none⟩ = some (.slice A2 a2.length c2) ∧ w'.cell? ⟨w.heap.size, 5, none⟩ = some (.slice D2 d2.length e2)) ∧ (w'.cell? ⟨w.heap.size + 1, 0, none⟩ = some (.bool n3) ∧ w'.cell? ⟨w.heap.size + 1, 1, none⟩ = some (.slice A3 a3.length c3) ∧ w'.cell? ⟨w.heap.size + 1, 2, none⟩ = some (.slice D3 d3.length e3) ∧ w'.cell? ⟨w.heap.size + 1, 3, none⟩ = some (.bool n4) ∧ w'.cell? ⟨w.heap.size + 1, 4, none⟩ = some (.slice A4 a4.length c4) ∧ w'.cell? ⟨w.heap.size + 1, 5, none⟩ = some (.slice D4 d4.length e4)) ∧ (w'.cell? ⟨w.heap.size + 1 + 1, 0, none⟩ = some (.bool n5) ∧ w'.cell? ⟨w.heap.size + 1 + 1, 1, none⟩ = some (.slice A5 a5.length c5) ∧ w'.cell? ⟨w.heap.size + 1 + 1, 2, none⟩ = some (.slice D5 d5.length e5)))
    (first | (with_reducible exact ⟨kept6 HK0.out K0, kept6 HK1.out K0, keep3 HK2.out K0⟩) | (with_reducible exact ⟨kept6 HK0.out K1, kept6 HK1.out K1, keep3 HK2.out K1⟩) | (with_reducible exact ⟨kept6 HK0.out K2, kept6 HK1.out K2, keep3 HK2.out K2⟩) | (with_reducible exact ⟨kept6 HK0.out K3, kept6 HK1.out K3, keep3 HK2.out K3⟩) | (with_reducible exact ⟨kept6 HK0.out K4, kept6 HK1.out K4, keep3 HK2.out K4⟩) | (with_reducible exact ⟨kept6 HK0.out K5, kept6 HK1.out K5, keep3 HK2.out K5⟩) | (with_reducible exact ⟨kept6 HK0.out K6, kept6 HK1.out K6, keep3 HK2.out K6⟩) | (with_reducible exact ⟨far66 (HK0.out.below K6 HK0.out.lt) (by omega) _ _ _ _ _ _ , far66 (HK1.out.below K6 HK1.out.lt) (by omega) _ _ _ _ _ _ , far36 (HK2.out.below K6 HK2.out.lt) (by omega) _ _ _ _ _ _ ⟩) | go_keep)
    ((first
      | (go_at_call_of 66 (Value.slice A3 a3.length c3); (with_reducible refine Calls.mono (C0.out _ K0) ?_); rintro e w1 ⟨n50, a50, A50, c50, d50, D50, e50, rfl, s50, r50, q50, b1⟩; have K1 := below_next K0 (Nat.le_refl _) b1)
      | (go_at_call_of 65 (Value.slice A5 a5.length c5); (with_reducible refine Calls.mono (C1.out _ K1 n50 a50 d50 A50 D50 c50 e50 s50 r50 q50 ) ?_); rintro e w2 ⟨n51, a51, A51, c51, d51, D51, e51, rfl, s51, r51, q51, b2⟩; have K2 := below_next K1 (Nat.le_refl _) b2)
      | (go_at_call_of 54 (Value.slice A1 a1.length c1); (with_reducible refine Calls.mono (C2.out _ K2 n51 a51 d51 A51 D51 c51 e51 s51 r51 q51 ) ?_); rintro e w3 ⟨n52, a52, A52, c52, d52, D52, e52, rfl, s52, r52, q52, b3⟩; have K3 := below_next K2 (Nat.le_refl _) b3)
      | (go_at_call_of 66 (Value.slice A4 a4.length c4); (with_reducible refine Calls.mono (C3.out _ K3) ?_); rintro e w4 ⟨n53, a53, A53, c53, d53, D53, e53, rfl, s53, r53, q53, b4⟩; have K4 := below_next K3 (Nat.le_refl _) b4)
      | (go_at_call_of 65 (Value.slice A5 a5.length c5); (with_reducible refine Calls.mono (C4.out _ K4 n53 a53 d53 A53 D53 c53 e53 s53 r53 q53 ) ?_); rintro e w5 ⟨n54, a54, A54, c54, d54, D54, e54, rfl, s54, r54, q54, b5⟩; have K5 := below_next K4 (Nat.le_refl _) b5)
      | (go_at_call_of 54 (Value.slice A2 a2.length c2); (with_reducible refine Calls.mono (C5.out _ K5 n54 a54 d54 A54 D54 c54 e54 s54 r54 q54 ) ?_); rintro e w6 ⟨n55, a55, A55, c55, d55, D55, e55, rfl, s55, r55, q55, b6⟩; have K6 := below_next K5 (Nat.le_refl _) b6; obtain ⟨⟨i0, i1, i2, i3, i4, i5⟩, ⟨j0, j1, j2, j3, j4, j5⟩⟩ := (HKR.out.below K6 HKR.out.lt).facts6)))
  obtain ⟨U, hU, ⟨u0, u1, u2, u3, u4, u5⟩, hG⟩ := fin_spot (w := w) (HKR.out.below K6 HKR.out.lt) (by omega) (HB0.out.trans (K6.mono HB0.out.size)) s52 s55 (r52.on ((b4.trans (b5.mono b4.size)).trans (b6.mono (b4.trans (b5.mono b4.size)).size))) (q52.on ((b4.trans (b5.mono b4.size)).trans (b6.mono (b4.trans (b5.mono b4.size)).size))) r55 q55
  have HU := Lib.hid hU
  have HF := Lib.hid (And.intro u0 (And.intro u1 (And.intro u2 (And.intro u3 (And.intro u4 u5)))))
  have HG := Lib.hid hG
  clear hU u0 u1 u2 u3 u4 u5 hG i0 i1 i2 i3 i4 i5 j0 j1 j2 j3 j4 j5 C0 C1 C2 C3 C4 C5 s50 r50 q50 s51 r51 q51 s52 r52 q52 s53 r53 q53 s54 r54 q54 s55 r55 q55
  go_wp2_with fail
  rw [HU.out]
  obtain ⟨u0, u1, u2, u3, u4, u5⟩ := HF.out
  exact bodyPost_ret (by simp [results, Try.results51, go_sem, u0, u1, u2, u3, u4, u5]) rfl HG.out

end Go.Proofs.Ytbgjpmijegeeiaa
