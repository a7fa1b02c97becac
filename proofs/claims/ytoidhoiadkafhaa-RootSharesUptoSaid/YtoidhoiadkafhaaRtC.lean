/- What the program's own foresee answers: the divisions that come out alike. -/
import Derived.Test.YtoidhoiadkafhaaRtB
import Derived.Deep.CutRange
namespace Go.Proofs.Ytoidhoiadkafhaa
open Go.RowKit Num

/-- BLOCK g IS JUST THE CELLS vs. -/
def Blk (w : World) (g : Nat) (t : TypeId) (vs : List Value) : Prop := w.heap[g]? = some (.cells vs.toArray t (0, 0))
section
variable {w w' : World} {g : Nat} {t : TypeId} {vs : List Value}
theorem Blk.lt (h : Blk w g t vs) : g < w.heap.size := by
  rcases Nat.lt_or_ge g w.heap.size with hlt | hge
  · exact hlt
  · unfold Blk at h; rw [Array.getElem?_eq_none hge] at h; cases h
theorem Blk.cell (h : Blk w g t vs) (i : Nat) {v : Value} (hv : vs[i]? = some v) : w.cell? ⟨g, i, none⟩ = some v := by
  rw [cell_of_row w g i _ t (0, 0) h]
  simpa using hv
theorem Blk.frozen (h : Blk w g t vs) (i : Nat) : w.frozen? ⟨g, i, none⟩ = false := frozen_of_row w g i _ t h
theorem Blk.set (h : Blk w g t vs) (i : Nat) (v : Value) : Blk (w.setCell ⟨g, i, none⟩ v) g t (vs.set i v) := by
  have := heap_setCell_same w g i _ t v h
  unfold Blk
  rw [this]
  simp
theorem Blk.far (h : Blk w g t vs) {p : Addr} (hp : g ≠ p.block) (u : Value) : Blk (w.setCell p u) g t vs := (Below.heap_setCell w p u g hp).trans h
theorem Blk.alloc (h : Blk w g t vs) (o : Obj) : Blk (w.alloc o) g t vs := (Below.heap_alloc w o g h.lt).trans h
theorem Blk.drewN (h : Blk w g t vs) (n : Nat) : Blk (w.drewN n) g t vs := h
theorem Blk.new (w : World) (t : TypeId) (vs : List Value) : Blk (w.alloc (.cells vs.toArray t)) w.heap.size t vs := heap_alloc_new w _
theorem Blk.at_new (w : World) (t : TypeId) (vs : List Value) {g : Nat} (hg : g = w.heap.size) : Blk (w.alloc (.cells vs.toArray t)) g t vs := by rw [hg]; exact Blk.new w t vs
theorem Blk.below {B : Nat} (h : Blk w g t vs) (hb : Below B w w') (hg : g < B) : Blk w' g t vs := (hb.block g hg).trans h
end

/-- steps, as they lie -/
def lie (f0 f1 s0 s1 : Nat) (ev : Bool) : List Value := [.int .u64 f0, .int .u64 f1, .int .u64 s0, .int .u64 s1, .bool ev]
def pair (x y : Nat) : List Value := [.int .u64 x, .int .u64 y]

theorem Blk.five {w : World} {g : Nat} {t : TypeId} {a0 a1 a2 a3 a4 : Value} (h : Blk w g t [a0, a1, a2, a3, a4]) (u0 u1 u2 u3 u4 : Value) :
    ∃ W, ((((w.setCell ⟨g, 0, none⟩ u0).setCell ⟨g, 1, none⟩ u1).setCell ⟨g, 2, none⟩ u2).setCell ⟨g, 3, none⟩ u3).setCell ⟨g, 4, none⟩ u4 = W ∧ Blk W g t [u0, u1, u2, u3, u4] ∧ (∀ B, B ≤ g → Below B w W) ∧ (∀ g' t' vs, g' ≠ g → Blk w g' t' vs → Blk W g' t' vs) ∧ w.heap.size ≤ W.heap.size :=
  ⟨_, rfl, ((((h.set 0 u0).set 1 u1).set 2 u2).set 3 u3).set 4 u4, fun _ hB => (((((Below.refl _ _).setCell hB _).setCell hB _).setCell hB _).setCell hB _).setCell hB _,
    fun _ _ _ hne k => ((((k.far hne u0).far hne u1).far hne u2).far hne u3).far hne u4, by simp [World.setCell]⟩
theorem Blk.two {w : World} {g : Nat} {t : TypeId} {a0 a1 : Value} (h : Blk w g t [a0, a1]) (u0 u1 : Value) :
    ∃ W, (w.setCell ⟨g, 0, none⟩ u0).setCell ⟨g, 1, none⟩ u1 = W ∧ Blk W g t [u0, u1] ∧ (∀ B, B ≤ g → Below B w W) ∧ (∀ g' t' vs, g' ≠ g → Blk w g' t' vs → Blk W g' t' vs) ∧ w.heap.size ≤ W.heap.size :=
  ⟨_, rfl, (h.set 0 u0).set 1 u1, fun _ hB => ((Below.refl _ _).setCell hB _).setCell hB _, fun _ _ _ hne k => (k.far hne u0).far hne u1, by simp [World.setCell]⟩

/-- what foresee answers -/
def GivesSteps (A B : Nat) (w : World) (e : Ending) (w' : World) : Prop :=
  ∃ (f0 f1 s0 s1 : Nat) (ev : Bool), e = .returned (.agg #[.int .u64 f0, .int .u64 f1, .int .u64 s0, .int .u64 s1, .bool ev]) ∧ Seen A B f0 f1 s0 s1 ev ∧ Below w.heap.size w w'
theorem gives_steps {A B f0 f1 s0 s1 : Nat} {ev : Bool} {w wr : World} {z0 z1 z2 z3 z4 : Value} {t : TypeId} (k0 : Blk wr w.heap.size t [z0, z1, z2, z3, z4]) (kb : Below w.heap.size w wr) (hS : Seen A B f0 f1 s0 s1 ev) :
    ∃ W, ((((wr.setCell ⟨w.heap.size, 0, none⟩ (.int .u64 f0)).setCell ⟨w.heap.size, 1, none⟩ (.int .u64 f1)).setCell ⟨w.heap.size, 2, none⟩ (.int .u64 s0)).setCell ⟨w.heap.size, 3, none⟩ (.int .u64 s1)).setCell ⟨w.heap.size, 4, none⟩ (.bool ev) = W ∧
      W.cell? ⟨w.heap.size, 0, none⟩ = some (.int .u64 f0) ∧ W.cell? ⟨w.heap.size, 1, none⟩ = some (.int .u64 f1) ∧ W.cell? ⟨w.heap.size, 2, none⟩ = some (.int .u64 s0) ∧ W.cell? ⟨w.heap.size, 3, none⟩ = some (.int .u64 s1) ∧ W.cell? ⟨w.heap.size, 4, none⟩ = some (.bool ev) ∧
      GivesSteps A B w (.returned (.agg #[.int .u64 f0, .int .u64 f1, .int .u64 s0, .int .u64 s1, .bool ev])) W := by
  obtain ⟨W, hW, k, hb, -, -⟩ := k0.five (.int .u64 f0) (.int .u64 f1) (.int .u64 s0) (.int .u64 s1) (.bool ev)
  exact ⟨W, hW, k.cell 0 rfl, k.cell 1 rfl, k.cell 2 rfl, k.cell 3 rfl, k.cell 4 rfl, f0, f1, s0, s1, ev, rfl, hS, kb.trans (hb _ (Nat.le_refl _))⟩

set_option maxHeartbeats 1600000 in
theorem root_foresee (A B : Nat) (hA : A < 18446744073709551616) (hB : B ≤ A) (w : World) :
    Calls Try.prog 56 #[.int .u64 A, .int .u64 B] w (GivesSteps A B w) := by
  go_enter Try.func56, Try.ntmps56
  go_wp2_with fail
  have k0 := ((Blk.new w 60 (lie 0 0 0 0 false)).alloc (.cells (lie 0 0 1 0 false).toArray 60)).alloc (.cells (pair 0 1).toArray 58)
  have k1 := (Blk.at_new (w.alloc (.cells (lie 0 0 0 0 false).toArray 60)) 60 (lie 0 0 1 0 false) (g := w.heap.size + 1) (by simp)).alloc (.cells (pair 0 1).toArray 58)
  have k2 := Blk.at_new ((w.alloc (.cells (lie 0 0 0 0 false).toArray 60)).alloc (.cells (lie 0 0 1 0 false).toArray 60)) 58 (pair 0 1) (g := w.heap.size + 1 + 1) (by simp)
  have kb := (((below_one w (.cells (lie 0 0 0 0 false).toArray 60)).alloc (by simp) (.cells (lie 0 0 1 0 false).toArray 60)).alloc (by simp; omega) (.cells (pair 0 1).toArray 58))
  go_loopg [0, 1, 7, 8, 9] B (fun gh a b _ _ _ wr => ∃ (x1 x2 f0 f1 s0 s1 n0 n1 : Nat) (ev : Bool), x2 = gh ∧ a = .int .u64 x1 ∧ b = .int .u64 x2 ∧ Blk wr w.heap.size 60 (lie 0 0 0 0 false) ∧ Blk wr (w.heap.size + 1) 60 (lie f0 f1 s0 s1 ev) ∧ Blk wr (w.heap.size + 1 + 1) 58 (pair n0 n1) ∧ Below w.heap.size w wr ∧ x1 ≤ A ∧ Inv A B x1 x2 s0 s1 n0 n1 ev ∧ Seen A B f0 f1 s0 s1 ev)
  case atStart => exact ⟨A, B, 0, 0, 1, 0, 0, 1, false, rfl, rfl, rfl, k0, k1, k2, kb, Nat.le_refl _, Inv.start hB, .inl rfl⟩
  case round =>
    clear k0 k1 k2 kb
    obtain ⟨x1, x2, f0, f1, s0, s1, n0, n1, ev, rfl, rfl, rfl, k0, k1, k2, kb, hx1, hI, hS⟩ := hrel
    have c20 := k2.cell 0 rfl
    have c21 := k2.cell 1 rfl
    have c10 := k1.cell 0 rfl
    have c11 := k1.cell 1 rfl
    have c12 := k1.cell 2 rfl
    have c13 := k1.cell 3 rfl
    have c14 := k1.cell 4 rfl
    have c00 := k0.cell 0 rfl
    have c01 := k0.cell 1 rfl
    have c02 := k0.cell 2 rfl
    have c03 := k0.cell 3 rfl
    have c04 := k0.cell 4 rfl
    have z0 := k0.frozen 0
    have z1 := k0.frozen 1
    have z2 := k0.frozen 2
    have z3 := k0.frozen 3
    have z4 := k0.frozen 4
    have fin := gives_steps k0 kb hS
    by_cases h1 : n1 ≤ x2
    · have hsm := hI.small hA h1
      have hvv := hI.vv
      have hle := hI.le
      by_cases h2 : s1 + n1 ≤ x1 - x2
      · have hpos := hI.pos
        have hnn := hI.uv
        obtain ⟨q, hq⟩ : ∃ q, x1 / x2 = q := ⟨_, rfl⟩
        obtain ⟨r, hr⟩ : ∃ r, x1 % x2 = r := ⟨_, rfl⟩
        have hqr : x1 = x2 * q + r := by rw [← hq, ← hr]; exact (Nat.div_add_mod _ _).symm
        have hrl : r < x2 := by rw [← hr]; exact Nat.mod_lt _ (by omega)
        have hN := hI.next hqr hrl
        have hgr := hN.great (by omega)
        have huv := hN.uv
        have hS2 : Seen A B s0 s1 n0 n1 (!ev) := .inr ⟨x1, x2, by simpa using hI, h1, h2⟩
        have hquo := u64_quo x1 x2 (by omega)
        have hrem := tmod_nat x1 x2
        rw [hq] at hquo
        rw [hr] at hrem
        obtain ⟨m0, hm0⟩ : ∃ m, s0 + q * n0 = m := ⟨_, rfl⟩
        obtain ⟨m1, hm1⟩ : ∃ m, s1 + q * n1 = m := ⟨_, rfl⟩
        rw [hm0, hm1] at hN huv
        rw [hm1] at hgr
        have e0 : (s0 : Int) + (q : Int) * (n0 : Int) = (m0 : Int) := by rw [← hm0, Int.natCast_add, Int.natCast_mul]
        have e1 : (s1 : Int) + (q : Int) * (n1 : Int) = (m1 : Int) := by rw [← hm1, Int.natCast_add, Int.natCast_mul]
        have p0 : 0 ≤ (q : Int) * (n0 : Int) := by rw [← Int.natCast_mul]; omega
        have p1 : 0 ≤ (q : Int) * (n1 : Int) := by rw [← Int.natCast_mul]; omega
        have hx0 : ¬ x2 = 0 := by omega
        have hm1A : m1 < 18446744073709551616 := by omega
        have hm0A : m0 < 18446744073709551616 := by omega
        have hxx : x1 < 18446744073709551616 := by omega
        have HI := Lib.hid hI
        have HS := Lib.hid hS2
        have HN := Lib.hid hN
        clear hI hS hN hS2 hm0 hm1 hq hr fin hgr huv hqr
        have h2i : (s1 : Int) + (n1 : Int) ≤ (x1 : Int) - (x2 : Int) := by omega
        have y0 := k2.frozen 0
        have y1 := k2.frozen 1
        have v0 := k1.frozen 0
        have v1 := k1.frozen 1
        have v2 := k1.frozen 2
        have v3 := k1.frozen 3
        have v4 := k1.frozen 4
        clear c00 c01 c02 c03 c04 z0 z1 z2 z3 z4
        go_wp2_with fail
        go_quiet (fail)
        have kk := Blk.at_new (wr.drewN nq) 58 (pair 0 0) (g := wr.heap.size) rfl
        have g0 : ((wr.drewN nq).alloc (Obj.cells #[Value.int IntKind.u64 0, Value.int IntKind.u64 0] 58)).cell? ⟨wr.heap.size, 0, none⟩ = some (.int .u64 0) := kk.cell 0 rfl
        have g1 : ((wr.drewN nq).alloc (Obj.cells #[Value.int IntKind.u64 0, Value.int IntKind.u64 0] 58)).cell? ⟨wr.heap.size, 1, none⟩ = some (.int .u64 0) := kk.cell 1 rfl
        have g2 : ((wr.drewN nq).alloc (Obj.cells #[Value.int IntKind.u64 0, Value.int IntKind.u64 0] 58)).frozen? ⟨wr.heap.size, 0, none⟩ = false := kk.frozen 0
        have g3 : ((wr.drewN nq).alloc (Obj.cells #[Value.int IntKind.u64 0, Value.int IntKind.u64 0] 58)).frozen? ⟨wr.heap.size, 1, none⟩ = false := kk.frozen 1
        have i0 := (k0.drewN nq).alloc (.cells (pair 0 0).toArray 58)
        have i1 := (k1.drewN nq).alloc (.cells (pair 0 0).toArray 58)
        have i2 := (k2.drewN nq).alloc (.cells (pair 0 0).toArray 58)
        have ib := (below_drewN kb nq).alloc kb.size (.cells (pair 0 0).toArray 58)
        have hlt2 := k2.lt
        clear y0 y1 v0 v1 v2 v3 v4
        go_upto_region 7 with fail
        obtain ⟨V, hV0, j3, jb, jo, js⟩ := kk.two (.int .u64 m0) (.int .u64 m1)
        have hV : (((wr.drewN nq).alloc (Obj.cells #[Value.int IntKind.u64 0, Value.int IntKind.u64 0] 58)).setCell ⟨wr.heap.size, 0, none⟩ (.int .u64 (m0 : Int))).setCell ⟨wr.heap.size, 1, none⟩ (.int .u64 (m1 : Int)) = V := hV0
        have j0 := jo _ _ _ (by omega) i0
        have j1 := jo _ _ _ (by omega) i1
        have j2 := jo _ _ _ (by omega) i2
        have jb2 := ib.trans (jb _ kb.size)
        rw [hV]
        clear hV hV0 jb jo js kk i0 i1 i2 ib g0 g1 g2 g3 k0 k1 k2 c10 c11 c12 c13 c14 c20 c21 e0 e1 p0 p1 hquo hrem
        have c10 := j1.cell 0 rfl
        have c11 := j1.cell 1 rfl
        have c12 := j1.cell 2 rfl
        have c13 := j1.cell 3 rfl
        have c14 := j1.cell 4 rfl
        have c20 := j2.cell 0 rfl
        have c21 := j2.cell 1 rfl
        have v0 := j1.frozen 0
        have v1 := j1.frozen 1
        have v2 := j1.frozen 2
        have v3 := j1.frozen 3
        have v4 := j1.frozen 4
        go_upto_region 8 with fail
        obtain ⟨U, hU, l1, lb, lo, ls⟩ := j1.five (.int .u64 s0) (.int .u64 s1) (.int .u64 n0) (.int .u64 n1) (.bool (!ev))
        have l0 := lo _ _ _ (by omega) j0
        have l2 := lo _ _ _ (by omega) j2
        have l3 := lo _ _ _ (by omega) j3
        have lb2 := jb2.trans (lb _ (by omega))
        rw [hU]
        clear hU lb lo ls j0 j1 j2 j3 jb2 c10 c11 c12 c13 c14 c20 c21 v0 v1 v2 v3 v4
        have c20 := l2.cell 0 rfl
        have c21 := l2.cell 1 rfl
        have y0 := l2.frozen 0
        have y1 := l2.frozen 1
        have c30 := l3.cell 0 rfl
        have c31 := l3.cell 1 rfl
        go_wp2_with fail
        obtain ⟨T, hT, q2, qb, qo, qs⟩ := l2.two (.int .u64 m0) (.int .u64 m1)
        have q0 := qo _ _ _ (by omega) l0
        have q1 := qo _ _ _ (by omega) l1
        try rw [hT]
        go_roundg r
        case measure => exact hrl
        case rel => exact ⟨x2, r, s0, s1, n0, n1, m0, m1, !ev, rfl, rfl, rfl, q0, q1, q2, lb2.trans (qb _ (by omega)), by omega, HN.out, HS.out⟩
      · have h2i : ¬ ((s1 : Int) + (n1 : Int) ≤ (x1 : Int) - (x2 : Int)) := by omega
        go_wp2_with fail
        obtain ⟨W, hW, r0, r1, r2, r3, r4, hG⟩ := fin
        rw [hW]
        exact bodyPost_ret (v := .agg #[.int .u64 f0, .int .u64 f1, .int .u64 s0, .int .u64 s1, .bool ev]) (by simp [results, Try.results56, go_sem, r0, r1, r2, r3, r4]) rfl hG
    · have h1i : ¬ ((n1 : Int) ≤ (x2 : Int)) := by omega
      go_wp2_with fail
      obtain ⟨W, hW, r0, r1, r2, r3, r4, hG⟩ := fin
      rw [hW]
      exact bodyPost_ret (v := .agg #[.int .u64 f0, .int .u64 f1, .int .u64 s0, .int .u64 s1, .bool ev]) (by simp [results, Try.results56, go_sem, r0, r1, r2, r3, r4]) rfl hG
end Go.Proofs.Ytoidhoiadkafhaa
