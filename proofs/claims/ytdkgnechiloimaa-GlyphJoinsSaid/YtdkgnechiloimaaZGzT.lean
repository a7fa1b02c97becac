/- Letters, the program's own: where a step of a letter comes to. -/
import Derived.Test.YtdkgnechiloimaaZGzR
import Derived.Deep.RegionLaw
import Derived.Test.YtdkgnechiloimaaZGzS
import Derived.Deep.AppendLies
import Derived.StillTailTactics
namespace Go.Proofs.Ytdkgnechiloimaa
open Go.RowKit

theorem newSt (w : World) (s : St) : ∃ W, w.alloc (.cells #[.int .i64 s.op, .int .i64 s.p0.x, .int .i64 s.p0.y, .int .i64 s.p1.x, .int .i64 s.p1.y, .int .i64 s.p2.x, .int .i64 s.p2.y] 49) = W ∧ Box W w.heap.size 49 (stCells s) ∧ Below w.heap.size w W ∧ W.heap.size = w.heap.size + 1 :=
  ⟨_, rfl, Box.new w _ (stCells s), (Below.refl _ w).alloc (Nat.le_refl _) _, by simp⟩
theorem toK_zero (q : Pn) (x : Int) (s : St) : toK q x s 0 = ⟨s.op, pt0, pt0, pt0⟩ := rfl
/-- a point of a number in a step's box -/
theorem Box.stP {w : World} {g : Nat} {s : St} (h : Box w g 49 (stCells s)) {k : Nat} (hk : k < 3) : w.cell? ⟨g, 1 + k * 2, none⟩ = some (.int .i64 (s.pt k).x) ∧ w.cell? ⟨g, 1 + k * 2 + 1, none⟩ = some (.int .i64 (s.pt k).y) ∧ w.frozen? ⟨g, 1 + k * 2, none⟩ = false ∧ w.frozen? ⟨g, 1 + k * 2 + 1, none⟩ = false := by
  refine ⟨?_, ?_, h.frozen _, h.frozen _⟩
  · match k, hk with
    | 0, _ => exact h.cell 1 rfl
    | 1, _ => exact h.cell 3 rfl
    | 2, _ => exact h.cell 5 rfl
  · match k, hk with
    | 0, _ => exact h.cell 2 rfl
    | 1, _ => exact h.cell 4 rfl
    | 2, _ => exact h.cell 6 rfl
theorem Box.stSet {w : World} {g : Nat} {q : Pn} {x : Int} {s : St} {k : Nat} (h : Box w g 49 (stCells (toK q x s k))) (hk : k < 3) : ∃ U, (w.setCell ⟨g, 1 + k * 2, none⟩ (.int .i64 (placeP q x (s.pt k)).x)).setCell ⟨g, 1 + k * 2 + 1, none⟩ (.int .i64 (placeP q x (s.pt k)).y) = U ∧
    Box U g 49 (stCells (toK q x s (k + 1))) ∧ ∀ B, B ≤ g → Below B w U := by
  refine ⟨_, rfl, ?_, fun B hB => ((Below.refl B w).setCell (p := ⟨g, 1 + k * 2, none⟩) hB _).setCell (p := ⟨g, 1 + k * 2 + 1, none⟩) hB _⟩
  have h2 := (h.set (1 + k * 2) (.int .i64 (placeP q x (s.pt k)).x)).set (1 + k * 2 + 1) (.int .i64 (placeP q x (s.pt k)).y)
  match k, hk with
  | 0, _ => exact h2
  | 1, _ => exact h2
  | 2, _ => exact h2
theorem Box.put7 {w : World} {g : Nat} {t : TypeId} {a b c d e f i : Value} (h : Box w g t [a, b, c, d, e, f, i]) (x0 x1 x2 x3 x4 x5 x6 : Value) : ∃ U, ((((((w.setCell ⟨g, 0, none⟩ x0).setCell ⟨g, 1, none⟩ x1).setCell ⟨g, 2, none⟩ x2).setCell ⟨g, 3, none⟩ x3).setCell ⟨g, 4, none⟩ x4).setCell ⟨g, 5, none⟩ x5).setCell ⟨g, 6, none⟩ x6 = U ∧ Box U g t [x0, x1, x2, x3, x4, x5, x6] ∧ (∀ B, B ≤ g → Below B w U) :=
  ⟨_, rfl, ((((((h.set 0 x0).set 1 x1).set 2 x2).set 3 x3).set 4 x4).set 5 x5).set 6 x6, fun B hB => (((((((Below.refl B w).setCell (p := ⟨g, 0, none⟩) hB x0).setCell (p := ⟨g, 1, none⟩) hB x1).setCell (p := ⟨g, 2, none⟩) hB x2).setCell (p := ⟨g, 3, none⟩) hB x3).setCell (p := ⟨g, 4, none⟩) hB x4).setCell (p := ⟨g, 5, none⟩) hB x5).setCell (p := ⟨g, 6, none⟩) hB x6⟩
theorem Box.loose7 {w : World} {g : Nat} {t : TypeId} {vs : List Value} (h : Box w g t vs) : w.frozen? ⟨g, 0, none⟩ = false ∧ w.frozen? ⟨g, 1, none⟩ = false ∧ w.frozen? ⟨g, 2, none⟩ = false ∧ w.frozen? ⟨g, 3, none⟩ = false ∧ w.frozen? ⟨g, 4, none⟩ = false ∧ w.frozen? ⟨g, 5, none⟩ = false ∧ w.frozen? ⟨g, 6, none⟩ = false :=
  ⟨h.frozen 0, h.frozen 1, h.frozen 2, h.frozen 3, h.frozen 4, h.frozen 5, h.frozen 6⟩
theorem toK_pt {q : Pn} {x : Int} {s : St} {k : Nat} (hk : k < 3) : (toK q x s (k + 1)).pt k = placeP q x (s.pt k) := by
  match k, hk with
  | 0, _ => rfl
  | 1, _ => rfl
  | 2, _ => rfl
def penCells (q : Pn) (x : Int) (v : Value) : List Value := [.int .i64 q.size, .int .i64 q.at_.x, .int .i64 q.at_.y, .int .i64 x, v]
/-- what a call keeps: cells of the pen's box -/
theorem Box.pen {w : World} {g : Nat} {q : Pn} {x : Int} {v : Value} (h : Box w g 38 (penCells q x v)) : (w.cell? ⟨g, 0, none⟩ = some (.int .i64 q.size) ∧ w.cell? ⟨g, 1, none⟩ = some (.int .i64 q.at_.x) ∧ w.cell? ⟨g, 2, none⟩ = some (.int .i64 q.at_.y) ∧ w.cell? ⟨g, 3, none⟩ = some (.int .i64 x) ∧ w.cell? ⟨g, 4, none⟩ = some v) :=
  ⟨h.cell 0 rfl, h.cell 1 rfl, h.cell 2 rfl, h.cell 3 rfl, h.cell 4 rfl⟩

set_option maxRecDepth 10000 in
set_option maxHeartbeats 6400000 in
theorem pen_step (g : Nat) (q : Pn) (x : Int) (v : Value) (s : St) (w : World) (hP : Box w g 38 (penCells q x v)) (hu : 0 ≤ usesM s.op) (hf : FitTo s (usesM s.op).toNat) (hx : 0 ≤ x ∧ x ≤ 8388607) (hsz : 1 ≤ q.size ∧ q.size ≤ 65536) (hat : FitP q.at_) :
    Calls Try.prog 15 #[.pointer (some ⟨g, 0, none⟩), stV s] w fun e w' => e = .returned (.tuple #[stV (if StepOk q x s then toM q x s else st0), .bool (decide (StepOk q x s))]) ∧ Below w.heap.size w w' := by
  obtain ⟨W1, hW1, k1, b1, hs1⟩ := newSt w s
  obtain ⟨W2, hW2, k2, b2, hs2⟩ := newSt W1 st0
  obtain ⟨W, hW, k3, b3, hs3⟩ := newSt W2 (toK q x s 0)
  have bW : Below w.heap.size w W := (b1.trans (b2.mono (by omega))).trans (b3.mono (by omega))
  obtain ⟨y0, -, -, -, -, -, -⟩ := k1.st
  obtain ⟨y1, -, -, -, -, -, -⟩ := (k1.below b2 k1.lt).st
  replace k1 := (k1.below b2 k1.lt).below b3 (by omega)
  obtain ⟨y2, -, -, -, -, -, -⟩ := k1.st
  replace k2 := k2.below b3 (by omega)
  have hl1 : w.heap.size < W1.heap.size := by omega
  have hl2 : W1.heap.size < W2.heap.size := by omega
  have hl3 : W2.heap.size < W.heap.size := by omega
  have hgl := hP.lt
  have hPW := hP.below bW hgl
  have hu3 := (usesM_in s.op).2
  have cU := fun V => path_Uses s.op V
  obtain ⟨un, hun⟩ : ∃ un, (usesM s.op).toNat = un := ⟨_, rfl⟩
  have hun2 : usesM s.op = (un : Int) := by omega
  have hun3 : un ≤ 3 := by omega
  obtain ⟨r, hr⟩ : ∃ r : Bool, decide (StepOk q x s) = r := ⟨_, rfl⟩
  have hT : (∀ j, j < un → OkP q x (s.pt j)) → r = true ∧ (if StepOk q x s then toM q x s else st0) = toK q x s un := fun h => by
    have h2 : StepOk q x s := by unfold StepOk; rw [hun]; exact h
    refine ⟨by rw [← hr]; exact decide_eq_true h2, ?_⟩
    rw [if_pos h2]
    unfold toM
    rw [hun]
  have hF : ∀ j, j < un → ¬ OkP q x (s.pt j) → r = false ∧ (if StepOk q x s then toM q x s else st0) = st0 := fun j hj h => by
    have h2 : ¬ StepOk q x s := fun h3 => h (h3 j (by rw [hun]; exact hj))
    exact ⟨by rw [← hr]; exact decide_eq_false h2, if_neg h2⟩
  rw [hr]
  obtain ⟨Z, hZ⟩ : ∃ Z, (if StepOk q x s then toM q x s else st0) = Z := ⟨_, rfl⟩
  rw [hZ] at hT ⊢
  simp only [hZ] at hF
  rw [hun] at hf
  rw [hun2] at cU
  have HT := Lib.hid hT
  have HF := Lib.hid hF
  have HP := Lib.hid hPW
  have HK := Lib.hid (And.intro k1 (And.intro k2 (And.intro k3 bW)))
  have HFIT := Lib.hid hf
  have HAT := Lib.hid hat
  have CU := Lib.hid cU
  clear hs1 hs2 hs3 hT hF hPW hP k1 k2 k3 bW b1 b2 b3 hr hZ hu hu3 hun hun2 hf cU
  unfold stV at *
  unfold st0 at hW2
  unfold toK at hW
  dsimp only at *
  simp only [Nat.not_lt_zero, if_false, pt0] at hW hW2
  have HWE := Lib.hid hW
  have y3 := y2
  rw [← hW] at y3
  clear hW
  go_enter Try.func15, Try.ntmps15
  go_wp2_with first
    | (rw [hW1])
    | (rw [hW2])
    | (go_at_call 19; (with_reducible refine Calls.mono (CU.out _) ?_); rintro e w1 ⟨rfl, rfl⟩)
  rw [HWE.out]
  go_loopg [16] un (fun gh it wr => ∃ k : Nat, it = .int .i64 (k : Int) ∧ gh + k = un ∧ (∀ j, j < k → OkP q x (s.pt j)) ∧ (Box wr w.heap.size 49 (stCells s) ∧ Box wr W1.heap.size 49 (stCells st0) ∧ Box wr W2.heap.size 49 (stCells (toK q x s k)) ∧ Box wr g 38 (penCells q x v)) ∧ Below w.heap.size w wr)
  case atStart => exact ⟨0, rfl, by omega, fun j hj => absurd hj (by omega), ⟨HK.out.1, HK.out.2.1, HK.out.2.2.1, HP.out⟩, HK.out.2.2.2⟩
  case round =>
    obtain ⟨k, rfl, hg, hok, ⟨k1, k2, k3, kp⟩, hB⟩ := hrel
    have HGI := Lib.hid hg
    by_cases hk : k < un
    · have hk3 : k < 3 := by omega
      have hkl : (k : Int) < (un : Int) := by omega
      have hki : (k : Int) < 3 := by omega
      obtain ⟨f0, f1, -, -⟩ := k1.stP hk3
      obtain ⟨-, -, t0, t1⟩ := k3.stP hk3
      obtain ⟨c0, c1, c2, c3, -⟩ := kp.pen
      have HST := Lib.hid (fun (V : World) (h : Box V W2.heap.size 49 (stCells (toK q x s k))) => h.stSet hk3)
      have hfp := HFIT.out k hk
      have HFS := Lib.hid (fun (h : OkP q x (s.pt k)) => show ∀ j, j < k + 1 → OkP q x (s.pt j) from fun j hj => by
        by_cases e : j = k
        · subst e; exact h
        · exact hok j (by omega))
      have HFN := Lib.hid (HF.out k hk)
      have HKK := Lib.hid (And.intro k1 (And.intro k2 (And.intro k3 (And.intro kp hB))))
      have HTP := Lib.hid (toK_pt (q := q) (x := x) (s := s) hk3)
      obtain ⟨p, hp⟩ : ∃ p, s.pt k = p := ⟨_, rfl⟩
      rw [hp] at f0 f1 hfp HFS HFN HTP HST
      have hX1 := scaleM_in (n := x + p.x) (size := q.size) (by have := hfp.1; omega) (by have := hfp.1; omega) hsz.1 hsz.2
      have hX2 := scaleM_in (n := p.y) (size := q.size) (by have := hfp.2; omega) (by have := hfp.2; omega) hsz.1 hsz.2
      have cS1 := fun V => gly_scale (x + p.x) q.size (by have := hfp.1; omega) (by have := hfp.1; omega) hsz.1 hsz.2 V
      have cS2 := fun V => gly_scale p.y q.size (by have := hfp.2; omega) (by have := hfp.2; omega) hsz.1 hsz.2 V
      have m0 : IntKind.i64.wrap (x + p.x) = x + p.x := IntWalk.i64_in _ (by have := hfp.1; omega)
      have m1 : IntKind.i64.wrap (q.at_.x + scaleM (x + p.x) q.size) = q.at_.x + scaleM (x + p.x) q.size := IntWalk.i64_in _ (by have := HAT.out.1; omega)
      have m2 : IntKind.i64.wrap (q.at_.y + scaleM p.y q.size) = q.at_.y + scaleM p.y q.size := IntWalk.i64_in _ (by have := HAT.out.2; omega)
      have hpl : placeP q x p = ⟨q.at_.x + scaleM (x + p.x) q.size, q.at_.y + scaleM p.y q.size⟩ := rfl
      have HPL := Lib.hid hpl
      obtain ⟨px, py⟩ := p
      obtain ⟨X, hXX⟩ : ∃ X, x + px = X := ⟨_, rfl⟩
      obtain ⟨a1, ha1⟩ : ∃ a1, scaleM X q.size = a1 := ⟨_, rfl⟩
      obtain ⟨a2, ha2⟩ : ∃ a2, scaleM py q.size = a2 := ⟨_, rfl⟩
      dsimp only at *
      rw [hXX] at hX1 cS1 m0 m1 HPL
      rw [ha1] at hX1 cS1 m1 HPL
      rw [ha2] at hX2 cS2 m2 HPL
      have CS1 := Lib.hid cS1
      have CS2 := Lib.hid cS2
      have m0' : IntKind.i64.wrap (x + px) = X := by rw [hXX]; exact m0
      have HXX := Lib.hid (And.intro hXX (And.intro ha1 ha2))
      obtain ⟨u0, hu0⟩ : ∃ u, q.at_.x = u := ⟨_, rfl⟩
      have HU0 := Lib.hid hu0
      obtain ⟨u1, hu1⟩ : ∃ u, q.at_.y = u := ⟨_, rfl⟩
      have HU1 := Lib.hid hu1
      obtain ⟨u2, hu2⟩ : ∃ u, q.size = u := ⟨_, rfl⟩
      have HU2 := Lib.hid hu2
      rw [hu0] at c1 m1 HPL
      rw [hu1] at c2 m2 HPL
      rw [hu2] at c0 CS1 CS2
      clear hok k1 k2 k3 kp hB hfp hX1 hX2 cS1 cS2 hXX ha1 ha2 hp hpl hu0 hu1 hu2 m0
      go_wp2_with fail
      go_quiet (fail)
      obtain ⟨Y, hY⟩ : ∃ Y, (wr.drewN nq).drew = Y := ⟨_, rfl⟩
      have HY := Lib.hid (show Box Y w.heap.size 49 (stCells s) ∧ Box Y W1.heap.size 49 (stCells st0) ∧ Box Y W2.heap.size 49 (stCells (toK q x s k)) ∧ Box Y g 38 (penCells q x v) ∧ Below w.heap.size w Y by rw [← hY]; exact ⟨HKK.out.1, HKK.out.2.1, HKK.out.2.2.1, HKK.out.2.2.2.1, (below_figE HKK.out.2.2.2.2 nq).drew⟩)
      obtain ⟨U, hU, kU, bU⟩ := HST.out Y HY.out.2.2.1
      rw [HPL.out] at hU
      dsimp only at hU
      have hUk : Box U g 38 (penCells q x v) := by rw [← hU]; exact (HY.out.2.2.2.1.far (by show g ≠ W2.heap.size; omega) _).far (by show g ≠ W2.heap.size; omega) _
      have HS2 := Lib.hid (show U.cell? ⟨g, 1, none⟩ = some (.int .i64 u0) ∧ U.cell? ⟨g, 0, none⟩ = some (.int .i64 u2) ∧ U.cell? ⟨g, 2, none⟩ = some (.int .i64 u1) from ⟨by rw [← HU0.out]; exact hUk.cell 1 rfl, by rw [← HU2.out]; exact hUk.cell 0 rfl, by rw [← HU1.out]; exact hUk.cell 2 rfl⟩)
      have HS1 := Lib.hid (show Y.cell? ⟨g, 1, none⟩ = some (.int .i64 u0) ∧ Y.cell? ⟨g, 0, none⟩ = some (.int .i64 u2) ∧ Y.cell? ⟨g, 2, none⟩ = some (.int .i64 u1) by rw [← hY]; exact ⟨c1, c0, c2⟩)
      obtain ⟨d0, d1, d2, d3⟩ := HY.out.2.2.1.stP hk3
      have HU := Lib.hid (And.intro kU (bU w.heap.size (by omega)))
      have HUB := Lib.hid (fun (B : Nat) (hB : B ≤ W2.heap.size) (j : Nat) (hj : j < B) => (bU B hB).block j hj)
      clear kU bU hUk
      go_wp2_with fail
      go_region_held3 (fun w' => w'.cell? ⟨g, 1, none⟩ = some (.int .i64 u0) ∧ w'.cell? ⟨g, 0, none⟩ = some (.int .i64 u2) ∧ w'.cell? ⟨g, 2, none⟩ = some (.int .i64 u1))
        (first
          | (with_reducible exact HS1.out)
          | (rw [hY]; with_reducible exact HS1.out)
          | (with_reducible exact HS2.out))
        ((go_at_call 16; (first | (with_reducible refine Calls.mono (CS1.out _) ?_) | (with_reducible refine Calls.mono (CS2.out _) ?_)); rintro e X2 ⟨rfl, rfl⟩))
      have HU2B := Lib.hid (show Box U w.heap.size 49 (stCells s) ∧ Box U W1.heap.size 49 (stCells st0) ∧ Box U W2.heap.size 49 (stCells (toK q x s (k + 1))) ∧ Box U g 38 (penCells q x v) ∧ Below w.heap.size w U from
        ⟨HUB.out W2.heap.size (Nat.le_refl _) w.heap.size (by omega) |> fun h => h.trans HY.out.1, HUB.out W2.heap.size (Nat.le_refl _) W1.heap.size (by omega) |> fun h => h.trans HY.out.2.1, HU.out.1, HUB.out W2.heap.size (Nat.le_refl _) g (by omega) |> fun h => h.trans HY.out.2.2.2.1, HY.out.2.2.2.2.trans HU.out.2⟩)
      obtain ⟨e0, e1, -, -⟩ := HU2B.out.2.2.1.stP hk3
      rw [HTP.out, HPL.out] at e0 e1
      dsimp only at e0 e1
      have HOK := Lib.hid (show OkP q x ⟨px, py⟩ ↔ X ≤ 8388607 ∧ FitP ⟨u0 + a1, u1 + a2⟩ from by
        unfold OkP
        rw [HPL.out]
        dsimp only
        rw [HXX.out.1])
      by_cases hX : 8388607 < X
      · obtain ⟨rfl, rfl⟩ := HFN.out (fun h => by have := (HOK.out.1 h).1; omega)
        obtain ⟨l0, l1, l2, l3, l4, l5, l6⟩ := HU2B.out.2.1.loose7
        obtain ⟨n0, n1, n2, n3, n4, n5, n6⟩ := HU2B.out.2.1.st
        obtain ⟨V6, hV6, kV6, bV6⟩ := Box.put7 HU2B.out.2.1 (.int .i64 0) (.int .i64 0) (.int .i64 0) (.int .i64 0) (.int .i64 0) (.int .i64 0) (.int .i64 0)
        have HE := Lib.hid (And.intro kV6 (HU2B.out.2.2.2.2.trans (bV6 w.heap.size (by omega))))
        clear kV6 bV6
        go_wp2_with fail
        try rw [hV6]
        have z0 := HE.out.1.cell 0 rfl
        have z1 := HE.out.1.cell 1 rfl
        have z2 := HE.out.1.cell 2 rfl
        have z3 := HE.out.1.cell 3 rfl
        have z4 := HE.out.1.cell 4 rfl
        have z5 := HE.out.1.cell 5 rfl
        have z6 := HE.out.1.cell 6 rfl
        refine bodyPost_ret (by simp [results, Try.results15, go_sem, z0, z1, z2, z3, z4, z5, z6]; exact ⟨rfl, rfl, rfl, rfl, rfl, rfl, rfl⟩) rfl ⟨rfl, HE.out.2⟩
      · have hXb : (decide (8388607 < X)) = false := by simpa using hX
        obtain ⟨d, hd⟩ : ∃ d : Bool, decide (FitP ⟨u0 + a1, u1 + a2⟩) = d := ⟨_, rfl⟩
        have cF := fun V => aff_Fits ⟨u0 + a1, u1 + a2⟩ V
        rw [hd] at cF
        unfold ptV at cF
        dsimp only at cF
        have CF := Lib.hid cF
        have HD := Lib.hid hd
        clear cF hd
        cases d with
        | false =>
          obtain ⟨rfl, rfl⟩ := HFN.out (fun h => of_decide_eq_false HD.out (HOK.out.1 h).2)
          go_wp2_with (go_at_call 8; (with_reducible refine Calls.mono (CF.out _) ?_); rintro e w6 ⟨rfl, b6⟩
                       have k6 := HU2B.out.2.1.below b6 (by have := HU2B.out.2.1.lt; exact this)
                       obtain ⟨l0, l1, l2, l3, l4, l5, l6⟩ := k6.loose7
                       obtain ⟨n0, n1, n2, n3, n4, n5, n6⟩ := k6.st
                       obtain ⟨V6, hV6, kV6, bV6⟩ := Box.put7 k6 (.int .i64 0) (.int .i64 0) (.int .i64 0) (.int .i64 0) (.int .i64 0) (.int .i64 0) (.int .i64 0)
                       have HE := Lib.hid (And.intro kV6 ((HU2B.out.2.2.2.2.trans (b6.mono HU2B.out.2.2.2.2.size)).trans (bV6 w.heap.size (by omega))))
                       clear kV6 bV6 k6 b6)
          try rw [hV6]
          have z0 := HE.out.1.cell 0 rfl
          have z1 := HE.out.1.cell 1 rfl
          have z2 := HE.out.1.cell 2 rfl
          have z3 := HE.out.1.cell 3 rfl
          have z4 := HE.out.1.cell 4 rfl
          have z5 := HE.out.1.cell 5 rfl
          have z6 := HE.out.1.cell 6 rfl
          refine bodyPost_ret (by simp [results, Try.results15, go_sem, z0, z1, z2, z3, z4, z5, z6]; exact ⟨rfl, rfl, rfl, rfl, rfl, rfl, rfl⟩) rfl ⟨rfl, HE.out.2⟩
        | true =>
          have HN := Lib.hid (HFS.out (HOK.out.2 ⟨by omega, of_decide_eq_true HD.out⟩))
          go_wp2_with (go_at_call 8; (with_reducible refine Calls.mono (CF.out _) ?_); rintro e w6 ⟨rfl, b6⟩
                       have HE := Lib.hid (show (Box w6 w.heap.size 49 (stCells s) ∧ Box w6 W1.heap.size 49 (stCells st0) ∧ Box w6 W2.heap.size 49 (stCells (toK q x s (k + 1))) ∧ Box w6 g 38 (penCells q x v)) ∧ Below w.heap.size w w6 from
                         ⟨⟨HU2B.out.1.below b6 HU2B.out.1.lt, HU2B.out.2.1.below b6 HU2B.out.2.1.lt, HU2B.out.2.2.1.below b6 HU2B.out.2.2.1.lt, HU2B.out.2.2.2.1.below b6 HU2B.out.2.2.2.1.lt⟩, HU2B.out.2.2.2.2.trans (b6.mono HU2B.out.2.2.2.2.size)⟩)
                       clear b6)
          go_roundg (un - (k + 1))
          case measure => have := HGI.out; omega
          case rel => exact ⟨k + 1, by simp, by have := HGI.out; omega, HN.out, HE.out.1, HE.out.2⟩
    · obtain rfl : k = un := by omega
      obtain ⟨hr1, hZ1⟩ := HT.out hok
      subst hr1
      have hkl : ¬ (k : Int) < (k : Int) := by omega
      rw [← hZ1] at k3
      obtain ⟨x0, x1, x2, x3, x4, x5, x6⟩ := k3.st
      obtain ⟨l0, l1, l2, l3, l4, l5, l6⟩ := k2.loose7
      obtain ⟨n0, n1, n2, n3, n4, n5, n6⟩ := k2.st
      obtain ⟨V6, hV6, kV6, bV6⟩ := Box.put7 k2 (.int .i64 Z.op) (.int .i64 Z.p0.x) (.int .i64 Z.p0.y) (.int .i64 Z.p1.x) (.int .i64 Z.p1.y) (.int .i64 Z.p2.x) (.int .i64 Z.p2.y)
      have HE := Lib.hid (And.intro kV6 (hB.trans (bV6 w.heap.size (by omega))))
      clear kV6 bV6 k1 k2 k3 kp hB hok hZ1
      go_wp2_with fail
      try rw [hV6]
      have z0 := HE.out.1.cell 0 rfl
      have z1 := HE.out.1.cell 1 rfl
      have z2 := HE.out.1.cell 2 rfl
      have z3 := HE.out.1.cell 3 rfl
      have z4 := HE.out.1.cell 4 rfl
      have z5 := HE.out.1.cell 5 rfl
      have z6 := HE.out.1.cell 6 rfl
      refine bodyPost_ret (by simp [results, Try.results15, go_sem, z0, z1, z2, z3, z4, z5, z6]) rfl ⟨rfl, HE.out.2⟩
end Go.Proofs.Ytdkgnechiloimaa
/- Letters, the program's own: a letter is set, and one goes on behind it. -/

namespace Go.Proofs.Ytdkgnechiloimaa
open Go.RowKit

/-- the row of the steps that the pen's box holds -/
def rowP (g : Nat) (W : World) : Option Nat := match W.cell? ⟨g, 4, none⟩ with
  | some v => v.ownBlock
  | none => none
theorem rowP_same {g : Nat} {X Y : World} (h : Y.heap[g]? = X.heap[g]?) : rowP g Y = rowP g X := by
  unfold rowP
  rw [World.cell?_of_block (a := ⟨g, 4, none⟩) h]
structure PenS (W : World) (g : Nat) (q : Pn) (x : Int) (v : Value) (out : List St) : Prop where
  box : Box W g 38 (penCells q x v)
  row : W.ownsRow (g + 1) 49 7 v out.length (stRow out)
section
variable {W W' : World} {g : Nat} {q : Pn} {x : Int} {v : Value} {out : List St}
theorem PenS.rowP (h : PenS W g q x v out) : rowP g W = v.ownBlock := by
  unfold Go.Proofs.Ytdkgnechiloimaa.rowP
  rw [h.box.cell 4 rfl]
theorem PenS.below (h : PenS W g q x v out) (hb : Below W.heap.size W W') : PenS W' g q x v out := ⟨h.box.below hb h.box.lt, own_below h.row hb⟩
theorem PenS.lt (h : PenS W g q x v out) : ∀ k, v.ownBlock = some k → g + 1 ≤ k ∧ k < W.heap.size := h.row.lt
/-- what setting keeps -/
def PenK (g : Nat) (W W' : World) : Prop := Below g W W' ∧ (∀ k, g < k → k < W.heap.size → some k ≠ Go.Proofs.Ytdkgnechiloimaa.rowP g W → W'.heap[k]? = W.heap[k]?) ∧ (Go.Proofs.Ytdkgnechiloimaa.rowP g W' = Go.Proofs.Ytdkgnechiloimaa.rowP g W ∨ ∀ k, Go.Proofs.Ytdkgnechiloimaa.rowP g W' = some k → W.heap.size ≤ k ∧ k < W'.heap.size)
theorem PenK.refl (W : World) : PenK g W W := ⟨Below.refl _ _, fun _ _ _ _ => rfl, .inl rfl⟩
theorem PenK.tr {A B C : World} (h : PenK g A B) (k : PenK g B C) : PenK g A C := by
  obtain ⟨h1, h2, h3⟩ := h
  obtain ⟨k1, k2, k3⟩ := k
  have hs := h1.size
  have hs2 := k1.size
  refine ⟨h1.trans k1, fun j hj hl hr => (k2 j hj (by omega) ?_).trans (h2 j hj hl hr), ?_⟩
  · rcases h3 with e | e
    · rw [e]; exact hr
    · intro e2
      have := (e j e2.symm).1
      omega
  · rcases k3 with e | e
    · rcases h3 with e2 | e2
      · exact .inl (e.trans e2)
      · exact .inr fun j hj => by
          obtain ⟨a, b⟩ := e2 j (e ▸ hj)
          exact ⟨a, by omega⟩
    · exact .inr fun j hj => ⟨by have := (e j hj).1; omega, (e j hj).2⟩
theorem PenK.ofBelow (hg : g < W.heap.size) (h : Below W.heap.size W W') : PenK g W W' :=
  ⟨h.mono (Nat.le_of_lt hg), fun k _ hk _ => h.block k hk, .inl (rowP_same (h.block g hg))⟩
theorem PenK.kp {n₀ Nb : Nat} (h : PenK g W W') (hn : n₀ ≤ g) (hb : g < Nb) : KpR n₀ Nb (Go.Proofs.Ytdkgnechiloimaa.rowP g) W W' :=
  ⟨h.1.mono hn, fun k _ hk ho _ hr => (h.2.1 k (by omega) (Array.getElem?_eq_some_iff.1 ho).1 hr).trans ho, h.2.2⟩
theorem own_setG {w : World} {base k n : Nat} {e : TypeId} {v : Value} {xs : List Value} (h : w.ownsRow base e k v n xs) {t : Nat} (ht : t < base) (i : Nat) (u : Value) : (w.setCell ⟨t, i, none⟩ u).ownsRow base e k v n xs := by
  refine h.kept (grown_setG w t i u) (.inr fun e => ?_)
  have := (h.lt t e).1
  omega
theorem stRow_append (a b : List St) : stRow (a ++ b) = stRow a ++ stRow b := by simp [stRow]
theorem stRow_one (s : St) : stRow [s] = stCells s := by simp [stRow]
/-- a step more: before and after the store -/
theorem PenS.more {w3 : World} {gg cap H : Nat} (h : PenS W g q x v out) (p : St) (hg : W.grownBy w3 v.ownBlock) (hor : v.ownBlock = some gg ∨ gg = H) (hH : W.heap.size ≤ H)
    (hn : w3.ownsRow (g + 1) 49 7 (.slice (some ⟨gg, 0, none⟩) (out.length + 1) cap) (out.length + 1) (stRow out ++ stCells p)) :
    (w3.cell? ⟨g, 4, none⟩ = some v ∧ w3.frozen? ⟨g, 4, none⟩ = false) ∧ ∃ U, w3.setCell ⟨g, 4, none⟩ (.slice (some ⟨gg, 0, none⟩) (out.length + 1) cap) = U ∧ PenS U g q x (.slice (some ⟨gg, 0, none⟩) (out.length + 1) cap) (out ++ [p]) ∧ PenK g W U := by
  have ht : (some g : Option Nat) ≠ v.ownBlock := fun e => by have := (h.lt g e.symm).1; omega
  have hk : Box w3 g 38 (penCells q x v) := (hg.block g h.box.lt ht).trans h.box
  have hgl := h.box.lt
  have hb : Below g W w3 := (Below.refl g W).grown hg (Nat.le_of_lt hgl) (fun k e => by have := (h.lt k e).1; omega)
  have hsl : gg < w3.heap.size := (hn.lt gg rfl).2
  have hrow := h.rowP
  have hP : PenS (w3.setCell ⟨g, 4, none⟩ (.slice (some ⟨gg, 0, none⟩) (out.length + 1) cap)) g q x (.slice (some ⟨gg, 0, none⟩) (out.length + 1) cap) (out ++ [p]) := by
    refine ⟨hk.set 4 _, ?_⟩
    rw [stRow_append, stRow_one, List.length_append]
    exact own_setG hn (Nat.lt_succ_self g) 4 _
  refine ⟨⟨hk.cell 4 rfl, hk.frozen 4⟩, _, rfl, hP, hb.setCell (p := ⟨g, 4, none⟩) (Nat.le_refl g) _, fun k h1 h2 h3 => ?_, ?_⟩
  · rw [hrow] at h3
    exact (Below.heap_setCell w3 _ _ k (by show k ≠ g; omega)).trans (hg.block k h2 h3)
  · rw [hP.rowP, hrow]
    rcases hor with e | e
    · exact .inl e.symm
    · refine .inr fun k hk2 => ?_
      have e3 : gg = k := by simpa [Value.ownBlock] using hk2
      subst e3
      exact ⟨by omega, by simpa using hsl⟩
/-- the pen goes on -/
theorem PenS.goes (h : PenS W g q x v out) (y : Int) : ∃ U, W.setCell ⟨g, 3, none⟩ (.int .i64 y) = U ∧ PenS U g q y v out ∧ PenK g W U := by
  have hP : PenS (W.setCell ⟨g, 3, none⟩ (.int .i64 y)) g q y v out := ⟨h.box.set 3 _, own_setG h.row (Nat.lt_succ_self g) 3 _⟩
  refine ⟨_, rfl, hP, (Below.refl g W).setCell (p := ⟨g, 3, none⟩) (Nat.le_refl g) _, fun k h1 h2 h3 => Below.heap_setCell W _ _ k (by show k ≠ g; omega), .inl ?_⟩
  rw [hP.rowP, h.rowP]
end
theorem seven_new (w : World) (t : TypeId) (vs : List Value) : ∀ j u, vs[j]? = some u → (w.alloc (.cells vs.toArray t)).cell? ((⟨w.heap.size, 0, none⟩ : Addr).add j) = some u := fun j u e => by
  rw [addr_add, Nat.zero_add]
  exact (Box.new w t vs).cell j e
/-- rows that are read while the pen writes: they lie in no row of the pen's -/
def Apart (g : Nat) (W : World) (A : Option Addr) : Prop := ∀ b o, A = some ⟨b, o, none⟩ → g < b ∧ some b ≠ rowP g W
theorem RdV.penK {g : Nat} {W W' : World} {A : Option Addr} {xs : List Value} (h : RdV W W.heap.size A xs) (ha : 0 < xs.length → Apart g W A) (hK : PenK g W W') : RdV W' W'.heap.size A xs ∧ (0 < xs.length → Apart g W' A) := by
  refine ⟨fun hn => ?_, fun hn b o e => ?_⟩
  · obtain ⟨b, o, e, hl, hc⟩ := h hn
    obtain ⟨h1, h2⟩ := ha hn b o e
    exact ⟨b, o, e, Nat.lt_of_lt_of_le hl hK.1.size, fun j hj => (World.cell?_of_block (a := ⟨b, o + j, none⟩) (hK.2.1 b h1 hl h2)).trans (hc j hj)⟩
  · obtain ⟨b', o', e', hl, -⟩ := h hn
    rw [e] at e'
    cases e'
    obtain ⟨h1, h2⟩ := ha hn b o e
    refine ⟨h1, ?_⟩
    rcases hK.2.2 with e2 | e2
    · rw [e2]; exact h2
    · intro e3
      have := (e2 b e3.symm).1
      omega
end Go.Proofs.Ytdkgnechiloimaa
/- Letters, the program's own: a letter is set (the walk). -/

namespace Go.Proofs.Ytdkgnechiloimaa
open Go.RowKit

/-- a letter has been set, or could not be -/
def SetOn (g : Nat) (q : Pn) (x : Int) (out : List St) (y : Glv) (w w' : World) : Prop := (errS q x out.length (y.gl, 0) = 0 → ∃ v', PenS w' g q (x + y.adv) v' (out ++ y.steps.map (toM q x))) ∧ PenK g w w'

set_option maxRecDepth 10000 in
set_option maxHeartbeats 6400000 in
theorem pen_set (g : Nat) (q : Pn) (x : Int) (v : Value) (out : List St) (y : Glv) (w : World) (hP : PenS w g q x v out) (hr : RdV w w.heap.size y.A (stRow y.steps)) (ha : 0 < (stRow y.steps).length → Apart g w y.A) (hm : MayG y.gl) (hx : 0 ≤ x ∧ x ≤ 8388607) (hsz : 1 ≤ q.size ∧ q.size ≤ 65536) (hat : FitP q.at_) (hout : out.length ≤ 200) :
    Calls Try.prog 10 #[.pointer (some ⟨g, 0, none⟩), gvV y] w fun e w' => e = .returned (.int .i64 (errS q x out.length (y.gl, 0))) ∧ SetOn g q x out y w w' := by
  obtain ⟨hst1, hst2⟩ := mayG_steps hm
  have hadv := hm.2.1
  obtain ⟨yc, ya, yA, yk, ys⟩ := y
  simp only [Glv.gl] at hst1 hst2 hadv
  dsimp only at hr ha
  have hS : errS q x out.length (Glv.gl ⟨yc, ya, yA, yk, ys⟩, 0) = if 200 < out.length + ys.length then 7 else if AllOk q x ys then (if 8388607 < x + ya then 4 else 0) else 4 := rfl
  unfold SetOn gvV
  obtain ⟨E, hE⟩ : ∃ E, errS q x out.length (Glv.gl ⟨yc, ya, yA, yk, ys⟩, 0) = E := ⟨_, rfl⟩
  rw [hE] at hS ⊢
  dsimp only
  obtain ⟨W, hW, kW, bW⟩ := newBox3 w 43 (.int .i64 yc) (.int .i64 ya) (.slice yA ys.length yk)
  have hgl := hP.box.lt
  have hwl : w.heap.size < W.heap.size := kW.lt
  have hPW := hP.below bW
  have hKW := PenK.ofBelow hgl bW
  obtain ⟨hrW, haW⟩ := hr.penK ha hKW
  obtain ⟨c0, c1, c2, c3, c4⟩ := hPW.box.pen
  obtain ⟨⟨b0, b1, b2⟩, -⟩ := kW.trip3
  obtain ⟨qv, kv, hqv, -, -, -⟩ := RdV.ofOwnK hP.row
  subst hqv
  have hrl : ∀ k, rowP g W = some k → k < w.heap.size := fun k hk => by
    rw [hPW.rowP] at hk
    exact (hP.lt k hk).2
  have HS := Lib.hid (And.intro hPW (And.intro hKW (And.intro kW (And.intro hrW (And.intro haW hrl)))))
  have HST := Lib.hid (And.intro hst2 hS)
  obtain ⟨m, hm0⟩ : ∃ m, out.length = m := ⟨_, rfl⟩
  obtain ⟨n, hn0⟩ : ∃ n, ys.length = n := ⟨_, rfl⟩
  have HM := Lib.hid (And.intro hm0 hn0)
  have HX := Lib.hid hx
  rw [hm0] at c4 hout
  rw [hn0] at hst1 b2 hW ⊢
  have hmn : IntKind.i64.wrap ((m : Int) + (n : Int)) = (m : Int) + (n : Int) := IntWalk.i64_in _ (by omega)
  clear hP hr ha hm hst2 hS hE kW bW hPW hKW hrW haW hrl hm0 hn0
  by_cases h200 : 200 < m + n
  · have hE7 : E = 7 := by have h := HST.out.2; rw [HM.out.1, HM.out.2, if_pos h200] at h; exact h
    have hmn2 : 200 < (m : Int) + (n : Int) := by omega
    subst hE7
    go_enter Try.func10, Try.ntmps10
    go_wp2_with (rw [hW])
    try rw [hW]
    go_quiet (fail)
    go_wp2_with fail
    go_ret
    exact ⟨rfl, fun h => by omega, HS.out.2.1.tr (PenK.ofBelow (by omega) (below_figE (Below.refl _ _) nq))⟩
  · have hE8 : E = if AllOk q x ys then (if 8388607 < x + ya then 4 else 0) else 4 := by have h := HST.out.2; rw [HM.out.1, HM.out.2, if_neg h200] at h; exact h
    have HE8 := Lib.hid hE8
    have hmn2 : ¬ 200 < (m : Int) + (n : Int) := by omega
    clear hE8
    go_enter Try.func10, Try.ntmps10
    go_wp2_with (rw [hW])
    try rw [hW]
    go_quiet (fail)
    go_wp2_with fail
    obtain ⟨Z, hZ⟩ : ∃ Z, W.drewN nq = Z := ⟨_, rfl⟩
    have bZ : Below W.heap.size W Z := by rw [← hZ]; exact below_figE (Below.refl _ _) nq
    have hKZ := PenK.ofBelow (show g < W.heap.size by omega) bZ
    have hKZ0 := HS.out.2.1.tr hKZ
    obtain ⟨hrZ, haZ⟩ := HS.out.2.2.2.1.penK HS.out.2.2.2.2.1 hKZ
    have HZ := Lib.hid (And.intro (HS.out.1.below bZ) (And.intro hKZ0 (And.intro (HS.out.2.2.1.below bZ HS.out.2.2.1.lt) (And.intro hrZ haZ))))
    have hzl : w.heap.size < Z.heap.size := Nat.lt_of_lt_of_le hwl bZ.size
    have hrz : ∀ k, rowP g Z = some k → k < w.heap.size := fun k hk => by
      rw [HZ.out.1.rowP, ← HS.out.1.rowP] at hk
      exact HS.out.2.2.2.2.2 k hk
    have HRZ := Lib.hid hrz
    rw [hZ]
    clear hZ bZ hKZ hKZ0 hrZ haZ hrz
    obtain ⟨i0, hi0, hz0, hz1, hz2⟩ := info_parts info_stp
    go_loopg [22] n (fun gh it wr => ∃ (i : Nat) (v' : Value), it = .int .i64 (i : Int) ∧ gh + i = n ∧ PenS wr g q x v' (out ++ (ys.take i).map (toM q x)) ∧ PenK g Z wr ∧ (∀ s ∈ ys.take i, StepOk q x s) ∧ RdV wr wr.heap.size yA (stRow ys) ∧ (0 < (stRow ys).length → Apart g wr yA))
    case atStart => exact ⟨0, _, rfl, by omega, by rw [List.take_zero, List.map_nil, List.append_nil]; exact HZ.out.1, PenK.refl _, by simp, HZ.out.2.2.2.1, HZ.out.2.2.2.2⟩
    case round =>
      obtain ⟨i, v', rfl, hg, hPi, hKi, hok, hri, hai⟩ := hrel
      have HGI := Lib.hid hg
      by_cases hlt : i < n
      · have hlt' : i < ys.length := by rw [HM.out.2]; exact hlt
        have hil : (i : Int) < (n : Int) := by omega
        have hpos : 0 < (stRow ys).length := by rw [stRow_length]; omega
        obtain ⟨b, o, rfl, hb, e0, e1, e2, e3, e4, e5, e6⟩ := hri.st (i := i) hlt'
        obtain ⟨s, hs⟩ : ∃ s, ys[i] = s := ⟨_, rfl⟩
        rw [hs] at e0 e1 e2 e3 e4 e5 e6
        have hsm : s ∈ ys := by rw [← hs]; exact List.getElem_mem hlt'
        obtain ⟨hu, hf⟩ := HST.out.1 s hsm
        obtain ⟨W2, hW2, k2, b2', hs2⟩ := newSt wr s
        have hgr := hPi.box.lt
        have hP2 := hPi.below b2'
        have cS := pen_step g q x v' s W2 hP2.box hu hf HX.out hsz hat
        have htk : (ys.take (i + 1)) = ys.take i ++ [s] := by rw [List.take_succ_eq_append_getElem hlt', hs]
        have htl : (ys.take i).length = i := by rw [List.length_take]; omega
        have hw2 : wr.heap.size < W2.heap.size := k2.lt
        have HP2 := Lib.hid hP2
        have HB2 := Lib.hid b2'
        have HR := Lib.hid (And.intro hri hai)
        have HK := Lib.hid (And.intro hPi hKi)
        have HTK := Lib.hid (And.intro htk (And.intro htl hok))
        have HSM := Lib.hid hsm
        obtain ⟨x0, x1, x2, x3, x4, x5, x6⟩ := k2.st
        clear hPi hKi hok hri hai hsm hu hf b2' hs2 hP2 htk htl k2 hpos hs hlt'
        by_cases hso : StepOk q x s
        · rw [if_pos hso, decide_eq_true hso] at cS
          obtain ⟨t, ht⟩ : ∃ t, toM q x s = t := ⟨_, rfl⟩
          rw [ht] at cS
          have HT := Lib.hid ht
          unfold stV at cS
          have CS := Lib.hid cS
          clear cS ht
          go_wp2_with first
            | (rw [hW2])
            | ((try rw [hW2]); go_at_call 15; (with_reducible refine Calls.mono CS.out ?_); rintro e w3 ⟨rfl, b3⟩
               go_loud (
               obtain ⟨W4, hW4, k4, b4, hs4⟩ := newSt w3 t
               have b24 : Below W2.heap.size W2 W4 := b3.trans (b4.mono b3.size)
               have br4 : Below wr.heap.size wr W4 := HB2.out.trans (b24.mono (by omega))
               have HP4 := Lib.hid (HP2.out.below b24)
               have hw4 : w3.heap.size < W4.heap.size := k4.lt
               have hw3 : W2.heap.size ≤ w3.heap.size := b3.size
               obtain ⟨y0, y1, y2, y3, y4, y5, y6⟩ := k4.st
               have HK4 := Lib.hid (And.intro k4 br4)
               clear k4 b4 b24 br4 b3 hs4))
            | (rw [hW4])
          obtain ⟨O, hO⟩ : ∃ O, out ++ (ys.take i).map (toM q x) = O := ⟨_, rfl⟩
          have hOn : out ++ (ys.take (i + 1)).map (toM q x) = O ++ [t] := by
            rw [HTK.out.1, List.map_append, ← List.append_assoc, hO, ← HT.out]
            rfl
          have hOl : O.length = m + i := by rw [← hO, List.length_append, List.length_map, HTK.out.2.1, HM.out.1]
          have hP5 := HP4.out
          rw [hO] at hP5
          obtain ⟨qo, ko, hqo, hk5, -, -⟩ := RdV.ofOwnK hP5.row
          subst hqo
          obtain ⟨m2, hm2⟩ : ∃ m2, O.length = m2 := ⟨_, rfl⟩
          have hm2' : m2 = m + i := by omega
          rw [hm2] at hP5 hk5
          have HM2 := Lib.hid hm2
          have HON := Lib.hid hOn
          have g4 : W4.cell? ⟨g, 4, none⟩ = some (.slice qo m2 ko) := hP5.box.cell 4 rfl
          have hbd : Below W4.heap.size W4 (W4.alloc (.cells #[.int .i64 t.op, .int .i64 t.p0.x, .int .i64 t.p0.y, .int .i64 t.p1.x, .int .i64 t.p1.y, .int .i64 t.p2.x, .int .i64 t.p2.y] 49)).drew := (below_new W4 _).drew
          have HTX := Lib.hid (hP5.below hbd)
          have HOW := Lib.hid (show (W4.alloc (.cells #[.int .i64 t.op, .int .i64 t.p0.x, .int .i64 t.p0.y, .int .i64 t.p1.x, .int .i64 t.p1.y, .int .i64 t.p2.x, .int .i64 t.p2.y] 49)).drew.ownsRow (g + 1) 49 7 (.slice qo m2 ko) m2 (stRow O) by have h := HTX.out.row; rw [HM2.out] at h; exact h)
          have HNW := Lib.hid (show ∀ j u, [(.int .i64 t.op : Value), .int .i64 t.p0.x, .int .i64 t.p0.y, .int .i64 t.p1.x, .int .i64 t.p1.y, .int .i64 t.p2.x, .int .i64 t.p2.y][j]? = some u → (W4.alloc (.cells #[.int .i64 t.op, .int .i64 t.p0.x, .int .i64 t.p0.y, .int .i64 t.p1.x, .int .i64 t.p1.y, .int .i64 t.p2.x, .int .i64 t.p2.y] 49)).drew.cell? ((⟨W4.heap.size, 0, none⟩ : Addr).add j) = some u from seven_new W4 49 _)
          have HBD := Lib.hid hbd
          have hg4 : g < W4.heap.size := by omega
          have hxl : g + 1 ≤ (W4.alloc (.cells #[.int .i64 t.op, .int .i64 t.p0.x, .int .i64 t.p0.y, .int .i64 t.p1.x, .int .i64 t.p1.y, .int .i64 t.p2.x, .int .i64 t.p2.y] 49)).drew.heap.size := Nat.le_trans hg4 HBD.out.size
          have hxm : m2 + 1 ≤ maxLen := by unfold maxLen; omega
          have hxb : (m2 + 1) * 56 ≤ 140737488355328 := by omega
          clear hP5 hOn hOl hO hm2 hbd hm2'
          go_region_law (refine step_append_lies _ (by rfl) _ _ _ (by rfl) (g + 1) 49 i0 (.agg #[.int .i64 0, .int .i64 0, .int .i64 0, .int .i64 0, .int .i64 0, .int .i64 0, .int .i64 0]) 7 56 Try.underlying27 hi0 hz0 hz1 hz2 rfl (by omega) _ m2 (stRow O) (by rfl) HOW.out ⟨W4.heap.size, 0, none⟩ 1 1 [.int .i64 t.op, .int .i64 t.p0.x, .int .i64 t.p0.y, .int .i64 t.p1.x, .int .i64 t.p1.y, .int .i64 t.p2.x, .int .i64 t.p2.y] (by rfl) (by rfl) HNW.out (by simp [Value.oneCell']) (by omega) hxm hxb hxl (W4.heap.size + 1) (by simp) ?_
                         intro gg cap w8 hown8 hgrow8 hor8 hlt8
                         obtain ⟨⟨r1, r2⟩, U, hU, r3, r4⟩ := PenS.more (H := W4.heap.size + 1) HTX.out t hgrow8 hor8 (by simp) (by rw [HM2.out]; exact hown8)
                         rw [HM2.out] at hU r3
                         replace r3 := Lib.hid (And.intro r3 r4)
                         clear hown8 hgrow8 hor8 hlt8 r4)
          all_goals
            have hKr : PenK g wr U := (PenK.ofBelow hgr (HK4.out.2.trans (HBD.out.mono (by omega)))).tr r3.out.2
            have HKr := Lib.hid hKr
            obtain ⟨hrU, haU⟩ := HR.out.1.penK HR.out.2 hKr
            have HRU := Lib.hid (And.intro hrU haU)
            clear hKr hrU haU
            go_wp2_with fail
            try rw [hU]
            go_roundg (n - (i + 1))
            case measure => have := HGI.out; omega
            case rel =>
              refine ⟨i + 1, _, by simp, by have := HGI.out; omega, by rw [HON.out]; exact r3.out.1, HK.out.2.tr HKr.out, ?_, HRU.out.1, HRU.out.2⟩
              rw [HTK.out.1]
              intro z hz
              rcases List.mem_append.1 hz with h | h
              · exact HTK.out.2.2 z h
              · simp at h; subst h; exact hso
        · rw [if_neg hso, decide_eq_false hso] at cS
          obtain ⟨t, ht⟩ : ∃ t, st0 = t := ⟨_, rfl⟩
          rw [ht] at cS
          clear ht
          unfold stV at cS
          have CS := Lib.hid cS
          have hE4 : E = 4 := by rw [HE8.out, if_neg (fun h => hso (h s HSM.out))]
          clear cS
          subst hE4
          go_wp2_with first
            | (rw [hW2])
            | ((try rw [hW2]); go_at_call 15; (with_reducible refine Calls.mono CS.out ?_); rintro e w3 ⟨rfl, b3⟩
               go_loud (
               obtain ⟨W4, hW4, k4, b4, hs4⟩ := newSt w3 t
               have hKE := Lib.hid (PenK.ofBelow hgr (HB2.out.trans ((b3.trans (b4.mono b3.size)).mono (by omega))))
               clear k4 b4 b3 hs4))
            | (rw [hW4])
          go_ret
          exact ⟨rfl, fun h => absurd h (by decide), HZ.out.2.1.tr (HK.out.2.tr hKE.out)⟩
      · obtain rfl : i = n := by omega
        have htk : ys.take i = ys := by rw [← HM.out.2]; exact List.take_length
        rw [htk] at hPi hok
        have hE2 : E = if 8388607 < x + ya then 4 else 0 := by rw [HE8.out, if_pos (show AllOk q x ys from hok)]
        have hgr := hPi.box.lt
        obtain ⟨d0, d1, d2, d3, d4⟩ := hPi.box.pen
        have f3 := hPi.box.frozen 3
        have kb : Box wr w.heap.size 43 [.int .i64 yc, .int .i64 ya, .slice yA ys.length yk] := (hKi.2.1 w.heap.size hgl hzl (fun e => by have := HRZ.out _ e.symm; omega)).trans HZ.out.2.2.1
        obtain ⟨⟨j0, j1, j2⟩, -⟩ := kb.trip3
        obtain ⟨U, hU, hPU, hKU⟩ := (hPi.below (Below.refl wr.heap.size wr).drew).goes (x + ya)
        have hKD := PenK.ofBelow hgr (Below.refl wr.heap.size wr).drew
        obtain ⟨z0, z1, z2, z3, z4⟩ := hPU.box.pen
        have HE := Lib.hid (And.intro hPU ((HZ.out.2.1.tr hKi).tr (hKD.tr hKU)))
        have HE2 := Lib.hid hE2
        have mx : IntKind.i64.wrap (x + ya) = x + ya := IntWalk.i64_in _ (by omega)
        have hil : ¬ (i : Int) < (i : Int) := by omega
        clear hPi hKi hok hri hai htk hE2 kb hPU hKU hKD
        go_wp2_with fail
        go_region
        all_goals
          try rw [hU]
          by_cases hl : 8388607 < x + ya
          · have hE4 := HE2.out
            rw [if_pos hl] at hE4
            subst hE4
            go_wp2_with fail
            go_ret
            exact ⟨rfl, fun h => absurd h (by decide), HE.out.2⟩
          · have hE4 := HE2.out
            rw [if_neg hl] at hE4
            subst hE4
            go_wp2_with fail
            go_ret
            exact ⟨rfl, ⟨_, HE.out.1⟩, HE.out.2⟩
end Go.Proofs.Ytdkgnechiloimaa
