/- Lines in pieces: that the law lives; the walk of DashPoints. -/
import Derived.Test.YtkebffkekinblaaZDuW
import Derived.Test.YtkebffkekinblaaZDsY
import Derived.Test.YtkebffkekinblaaZOaJ
import Derived.Test.YtkebffkekinblaaZGcY
namespace Go.Proofs.Ytkebffkekinblaa
open Go.RowKit

set_option maxRecDepth 100000 in
theorem cut_lives : cutM [pt0, ⟨10, 0⟩] false [3, 2] 0 = ([⟨[pt0, ⟨3, 0⟩], false⟩, ⟨[⟨5, 0⟩, ⟨8, 0⟩], false⟩], 0) := by kernel_rfl
/-- two lines of which the second one is so -/
theorem lines_lives {V : List Lv} (h : Lv.all V = [⟨[pt0, ⟨3, 0⟩], false⟩, ⟨[⟨5, 0⟩, ⟨8, 0⟩], false⟩]) : ∃ x y, V = [x, y] ∧ y.pts = [⟨5, 0⟩, ⟨8, 0⟩] := by
  have hl : V.length = 2 := by
    have := congrArg List.length h
    simpa [Lv.all] using this
  match V, hl, h with
  | [x, y], _, h =>
    simp only [Lv.all, List.map_cons, List.map_nil, List.cons.injEq, and_true, Lv.ln] at h
    exact ⟨x, y, rfl, by have := h.2; simp only [Ln.mk.injEq] at this; exact this.1⟩

set_option maxRecDepth 10000 in
set_option maxHeartbeats 3200000 in
theorem law15_lives (w : World) : Calls Try.prog 9 #[] w fun e w' => e = .returned (.bool true) ∧ Below w.heap.size w w' := by
  have hC := fun V A B (hA : RdV V V.heap.size A (ptRow [pt0, ⟨10, 0⟩])) (hB : RdV V V.heap.size B (icells [3, 2])) => dash_Cut [pt0, ⟨10, 0⟩] A 2 false [3, 2] B 2 0 V hA (by simp) (by simp) hB (by simp) (by simp)
  unfold CutTo at hC
  rw [cut_lives] at hC
  dsimp only [List.length_cons, List.length_nil, Nat.zero_add, Nat.reduceAdd] at hC
  have HC := Lib.hid hC
  obtain ⟨W, hW, kA, bA⟩ : ∃ W, w.alloc (.cells #[.int .i64 0, .int .i64 0, .int .i64 10, .int .i64 0] 36) = W ∧ Box W w.heap.size 36 [.int .i64 0, .int .i64 0, .int .i64 10, .int .i64 0] ∧ Below w.heap.size w W := ⟨_, rfl, Box.new w _ [.int .i64 0, .int .i64 0, .int .i64 10, .int .i64 0], below_new w _⟩
  obtain ⟨U, hU, kB, bB⟩ : ∃ U, W.alloc (.cells #[.int .i64 3, .int .i64 2] 3) = U ∧ Box U W.heap.size 3 [.int .i64 3, .int .i64 2] ∧ Below W.heap.size W U := ⟨_, rfl, Box.new W _ [.int .i64 3, .int .i64 2], below_new W _⟩
  have HRA := Lib.hid (show RdV U U.heap.size (some ⟨w.heap.size, 0, none⟩) (ptRow [pt0, ⟨10, 0⟩]) from (kA.below bB kA.lt).rd)
  have HRB := Lib.hid (show RdV U U.heap.size (some ⟨W.heap.size, 0, none⟩) (icells [3, 2]) from kB.rd)
  have HB := Lib.hid (bA.trans (bB.mono bA.size))
  clear hC kA kB bA bB
  go_enter Try.func9, Try.ntmps9
  go_wp2_with first
    | (rw [hW])
    | (rw [hU])
    | (go_at_call 6; (with_reducible refine Calls.mono (HC.out U _ _ HRA.out HRB.out) ?_); rintro e w1 ⟨⟨q, k, V, rfl, hV, -, hq, hp⟩, b1⟩
       obtain ⟨x, y, rfl, hy⟩ := lines_lives hV
       obtain ⟨g, o, rfl, hgl, hcell⟩ := hq (by simp [lvRow, lvCells])
       have hyp := hp y (by simp)
       have f2 := hcell 2 (by simp [lvRow, lvCells])
       rw [hy] at hyp
       obtain ⟨g2, o2, hA2, hgl2, hc2⟩ := hyp (by simp [ptRow, ptCells])
       have f3 := hc2 0 (by simp [ptRow, ptCells])
       have f4 := hc2 2 (by simp [ptRow, ptCells])
       have f2' : w1.cell? ⟨g, o + 2, none⟩ = some (.slice (some ⟨g2, o2, none⟩) 2 y.c) := by
         rw [f2]
         show some (Value.slice y.A y.pts.length y.c) = _
         rw [hA2, hy]; rfl
       have f3' : w1.cell? ⟨g2, o2, none⟩ = some (.int .i64 5) := f3
       have f4' : w1.cell? ⟨g2, o2 + 2, none⟩ = some (.int .i64 8) := f4
       have HB1 := Lib.hid (HB.out.trans (b1.mono HB.out.size))
       clear hV hq hp hcell hyp f2 f3 f4 hc2 hy hA2 b1
       simp only [List.length_cons, List.length_nil, Nat.zero_add, Nat.reduceAdd])
  go_ret
  exact ⟨rfl, HB1.out⟩

set_option maxRecDepth 10000 in
set_option maxHeartbeats 6400000 in
/-- DashPoints, walked -/
theorem law15_Points (L : List Pt) (cl : Bool) (n : Int) (P : List Int) (A : Option Addr) (c : Nat) (B : Option Addr) (d : Nat) (w : World) (hL : RdV w w.heap.size A (ptRow L)) (hl : L.length ≤ 1048576) (hc : L.length ≤ c) (hP : RdV w w.heap.size B (icells P)) (hp : P.length ≤ 1048576) (hd : P.length ≤ d) (hn : -9223372036854775808 ≤ n ∧ n ≤ 9223372036854775807) :
    Calls Try.prog 4 #[.agg #[.slice A L.length c, .bool cl], .int .i64 n, .slice B P.length d] w fun e w' => e = .returned (.bool true) ∧ Below w.heap.size w w' := by
  obtain ⟨W, hW, kW, bW⟩ := line_box w (.slice A L.length c) (.bool cl)
  have c1 := fun V (h : Below w.heap.size w V) => dash_At L A c cl n hn V (hL.on h) hl hc
  have c2 := fun V (h : Below w.heap.size w V) => ref15_At L A c cl n hn V (hL.on h) (by omega)
  have c3 := fun V (h : Below w.heap.size w V) => show Calls Try.prog 12 #[.slice B P.length d, .int .i64 n] V (fun e w' => e = .returned (.bool (decide (MayD P n))) ∧ Below V.heap.size V w') from (ref15_May P B d n V (hP.on h) (by omega)).mono (by
    rintro e w' ⟨rfl, rfl⟩
    exact ⟨rfl, Below.refl _ _⟩)
  have c4 := fun V (h : Below w.heap.size w V) => dash_May P B d n V (hP.on h) hp hd
  have c5 := fun (hm : MayD P n) V (h : Below w.heap.size w V) => dash_Total P B d n hm V (hP.on h) hd
  have c6 := fun (hm : MayD P n) V (h : Below w.heap.size w V) => ref15_Total P B d n hm V (hP.on h)
  generalize AtV L cl n = z at c1 c2
  generalize decide (AtOk L cl n) = ok at c1 c2
  generalize totalP P = t at c5 c6
  have hdm : ∀ m : Bool, decide (MayD P n) = m → (m = true → MayD P n) := fun m h k => of_decide_eq_true (h.trans k)
  obtain ⟨m, hm⟩ : ∃ m : Bool, decide (MayD P n) = m := ⟨_, rfl⟩
  rw [hm] at c3 c4
  have HM := Lib.hid (hdm m hm)
  obtain ⟨nl, hnl⟩ : ∃ x, L.length = x := ⟨_, rfl⟩
  obtain ⟨np, hnp⟩ : ∃ x, P.length = x := ⟨_, rfl⟩
  rw [hnl] at c1 c2 kW hW ⊢
  rw [hnp] at c3 c4 c5 c6 ⊢
  obtain ⟨x, y⟩ := z
  unfold ptV at c1 c2
  dsimp only at c1 c2
  obtain ⟨⟨p0, p1⟩, -⟩ := Box.pair kW
  have HK := Lib.hid (And.intro kW bW)
  have C1 := Lib.hid c1
  have C2 := Lib.hid c2
  have C3 := Lib.hid c3
  have C4 := Lib.hid c4
  have C5 := Lib.hid c5
  have C6 := Lib.hid c6
  have C9 := Lib.hid law15_lives
  clear c1 c2 c3 c4 c5 c6 hdm hm hL hP hl hp hc hd hnl hnp kW bW hn
  cases m
  all_goals
    go_enter Try.func4, Try.ntmps4
    go_wp2_with first
      | (rw [hW])
      | (go_at_call 10; (with_reducible refine Calls.mono (C1.out _ HK.out.2) ?_); rintro e w1 ⟨rfl, b1⟩
         obtain ⟨V1, hV1, k1, d1⟩ := endP w1 36 (.int .i64 x) (.int .i64 y)
         have G1 := Lib.hid (HK.out.2.trans ((b1.trans (d1.mono b1.size)).mono HK.out.2.size))
         have K1 := Lib.hid k1
         obtain ⟨⟨p0, p1⟩, -⟩ := Box.pair ((HK.out.1.below b1 HK.out.1.lt).below d1 (Nat.lt_of_lt_of_le HK.out.1.lt b1.size))
         have P1 := Lib.hid ((HK.out.1.below b1 HK.out.1.lt).below d1 (Nat.lt_of_lt_of_le HK.out.1.lt b1.size))
         clear b1 d1 k1)
      | (rw [hV1])
      | (go_at_call 11; (with_reducible refine Calls.mono (C2.out _ G1.out) ?_); rintro e w2 ⟨rfl, b2⟩
         obtain ⟨V2, hV2, k2, d2⟩ := endP w2 36 (.int .i64 x) (.int .i64 y)
         have hb2 := b2.trans (d2.mono b2.size)
         have G2 := Lib.hid (G1.out.trans (hb2.mono G1.out.size))
         have K2 := Lib.hid (And.intro (K1.out.below hb2 K1.out.lt) k2)
         clear b2 d2 k2 hb2)
      | (rw [hV2])
      | (go_at_call 12; (with_reducible refine Calls.mono (C3.out _ G2.out) ?_); rintro e w3 ⟨rfl, b3⟩
         have G3 := Lib.hid (G2.out.trans (b3.mono G2.out.size))
         obtain ⟨⟨q0, q1⟩, -⟩ := Box.pair (K2.out.1.below b3 K2.out.1.lt)
         obtain ⟨⟨r0, r1⟩, -⟩ := Box.pair (K2.out.2.below b3 K2.out.2.lt)
         clear b3)
      | (go_at_call 13; (with_reducible refine Calls.mono (C4.out _ G3.out) ?_); rintro e w4 ⟨rfl, b4⟩
         have G4 := Lib.hid (G3.out.trans (b4.mono G3.out.size))
         clear b4)
      | (go_at_call 14; (with_reducible refine Calls.mono (C5.out (HM.out (by trivial)) _ G4.out) ?_); rintro e w5 ⟨rfl, b5⟩
         have G5 := Lib.hid (G4.out.trans (b5.mono G4.out.size))
         clear b5)
      | (go_at_call 15; (with_reducible refine Calls.mono (C6.out (HM.out (by trivial)) _ G5.out) ?_); rintro e w6 ⟨rfl, b6⟩
         have G6 := Lib.hid (G5.out.trans (b6.mono G5.out.size))
         clear b6)
      | (go_at_call 9; (with_reducible refine Calls.mono (C9.out _) ?_); rintro e w7 ⟨rfl, b7⟩)
    go_ret
    first
      | exact ⟨rfl, G6.out.trans (b7.mono G6.out.size)⟩
      | exact ⟨rfl, G4.out.trans (b7.mono G4.out.size)⟩
end Go.Proofs.Ytkebffkekinblaa
/- Lines in pieces: the walk of DashCuts. -/

namespace Go.Proofs.Ytkebffkekinblaa
open Go.RowKit

theorem lvs_small {V : List Lv} {o : List Ln} {m : Nat} (h : Lv.all V = o) (ho : SmallLs m o) : ∀ x ∈ V, x.pts.length ≤ m := fun x hx => ho x.ln (by rw [← h]; exact List.mem_map.2 ⟨x, hx, rfl⟩)
theorem lvs_length {V : List Lv} {o : List Ln} (h : Lv.all V = o) : V.length = o.length := by rw [← h]; simp [Lv.all]

set_option maxRecDepth 10000 in
set_option maxHeartbeats 3200000 in
/-- DashCuts, walked -/
theorem law15_Cuts (L : List Pt) (cl : Bool) (P : List Int) (h : Int) (A : Option Addr) (c : Nat) (B : Option Addr) (d : Nat) (w : World) (hL : RdV w w.heap.size A (ptRow L)) (hl : L.length ≤ 1048576) (hc : L.length ≤ c) (hP : RdV w w.heap.size B (icells P)) (hp : P.length ≤ 1048576) (hd : P.length ≤ d) :
    Calls Try.prog 3 #[.agg #[.slice A L.length c, .bool cl], .slice B P.length d, .int .i64 h] w fun e w' => e = .returned (.bool true) ∧ Below w.heap.size w w' := by
  obtain ⟨W, hW, kW, bW⟩ := line_box w (.slice A L.length c) (.bool cl)
  have c1 := fun V (hb : Below w.heap.size w V) => dash_Cut L A c cl P B d h V (hL.on hb) hl hc (hP.on hb) hp hd
  have c2 := fun V (hb : Below w.heap.size w V) => ref15_Cut L A c cl P B d h V (hL.on hb) hl (hP.on hb) (by omega)
  unfold CutTo at c1 c2
  obtain ⟨s1, s2⟩ := cutM_small L cl P h
  generalize cutM L cl P h = X at c1 c2 s1 s2
  have HS := Lib.hid (And.intro s1 s2)
  obtain ⟨nl, hnl⟩ : ∃ x, L.length = x := ⟨_, rfl⟩
  obtain ⟨np, hnp⟩ : ∃ x, P.length = x := ⟨_, rfl⟩
  rw [hnl, hnp] at c1 c2
  rw [hnl] at kW hW
  rw [hnl, hnp]
  rw [hnl] at HS hl
  obtain ⟨⟨p0, p1⟩, -⟩ := Box.pair kW
  have HK := Lib.hid (And.intro kW bW)
  have C1 := Lib.hid c1
  have C2 := Lib.hid c2
  have C9 := Lib.hid law15_lives
  obtain ⟨O, E⟩ := X
  dsimp only at C1 C2 HS
  clear c1 c2 hL hP hp hc hd hnl hnp kW bW s1 s2
  go_enter Try.func3, Try.ntmps3
  go_wp2_with first
    | (rw [hW])
    | (go_at_call 6; (with_reducible refine Calls.mono (C1.out _ HK.out.2) ?_); rintro e w1 ⟨⟨q, k, V, rfl, hV, -, r1⟩, b1⟩
       have G1 := Lib.hid (HK.out.2.trans (b1.mono HK.out.2.size))
       have R1 := Lib.hid (And.intro hV r1)
       obtain ⟨⟨p0, p1⟩, -⟩ := Box.pair (HK.out.1.below b1 HK.out.1.lt)
       clear b1 hV r1)
    | (go_at_call 7; (with_reducible refine Calls.mono (C2.out _ G1.out) ?_); rintro e w2 ⟨⟨q2, k2, V2, rfl, hV2, -, r2⟩, b2⟩
       have G2 := Lib.hid (G1.out.trans (b2.mono G1.out.size))
       have R2 := Lib.hid (And.intro (R1.out.2.on b2) r2)
       have cS := ref12_Same V V2 (R1.out.1.trans hV2.symm) q q2 k k2 w2 R2.out.1 R2.out.2 (by have := lvs_length R1.out.1; have := HS.out.2; omega) (fun x hx => by have := lvs_small R1.out.1 HS.out.1 x hx; omega)
       have CS := Lib.hid cS
       clear b2 hV2 r2 cS)
    | (go_at_call 8; (with_reducible refine Calls.mono CS.out ?_); rintro e w3 ⟨rfl, b3⟩
       have G3 := Lib.hid (G2.out.trans (b3.mono G2.out.size))
       clear b3)
    | (go_at_call 9; (with_reducible refine Calls.mono (C9.out _) ?_); rintro e w4 ⟨rfl, b4⟩)
  go_ret
  exact ⟨rfl, G3.out.trans (b4.mono G3.out.size)⟩
end Go.Proofs.Ytkebffkekinblaa
/- Lines in pieces: the walk of DashStays. -/

namespace Go.Proofs.Ytkebffkekinblaa
open Go.RowKit

theorem cutM_fit {l : List Pt} {c : Bool} {P : List Int} {h : Int} (he : (cutM l c P h).2 = 0) : FitL l := by
  unfold cutM at he
  split at he
  · exact absurd he (by decide)
  · split at he
    · exact absurd he (by decide)
    · rename_i hf
      exact Classical.byContradiction hf

set_option maxRecDepth 10000 in
set_option maxHeartbeats 12800000 in
/-- DashStays, walked -/
theorem law15_Stays (L : List Pt) (cl : Bool) (P : List Int) (h : Int) (A : Option Addr) (c : Nat) (B : Option Addr) (d : Nat) (w : World) (hL : RdV w w.heap.size A (ptRow L)) (hl : L.length ≤ 1048576) (hc : L.length ≤ c) (hP : RdV w w.heap.size B (icells P)) (hp : P.length ≤ 1048576) (hd : P.length ≤ d) :
    Calls Try.prog 5 #[.agg #[.slice A L.length c, .bool cl], .slice B P.length d, .int .i64 h] w fun e w' => e = .returned (.bool true) ∧ Below w.heap.size w w' := by
  obtain ⟨W, hW, kW, bW⟩ := line_box w (.slice A L.length c) (.bool cl)
  have c1 := fun V (hb : Below w.heap.size w V) => dash_Cut L A c cl P B d h V (hL.on hb) hl hc (hP.on hb) hp hd
  have c2 := fun V (hb : Below w.heap.size w V) => ref14_Box L A c V (hL.on hb) (by omega)
  have c3 := fun V (hb : Below w.heap.size w V) => ref14_Long L A c cl V (hL.on hb) (by omega)
  have c4 := fun V (hb : Below w.heap.size w V) Q k (hq : RdV V V.heap.size Q (icells [longM L cl])) (hk : 1 ≤ k) => dash_Cut L A c cl [longM L cl] Q k 0 V (hL.on hb) hl hc hq (by simp) hk
  have hwh := fun (he : (cutM L cl P h).2 = 0) => cutM_whole (c := cl) (cutM_fit he)
  have hin := cutM_in L cl P h
  have herr := cutM_err L cl P h
  obtain ⟨s1, s2⟩ := cutM_small L cl P h
  unfold CutTo at c1 c4
  unfold Boxed at c2
  generalize cutM L cl P h = X at c1 s1 s2 hwh hin herr
  generalize longM L cl = N at c3 c4 hwh
  generalize cutM L cl [N] 0 = X2 at c4 hwh
  generalize lowTo L L.length = lo at c2 hin
  generalize highTo L L.length = hi at c2 hin
  generalize decide (0 < L.length) = dn at c2
  obtain ⟨O, E⟩ := X
  obtain ⟨O2, E2⟩ := X2
  obtain ⟨lx, ly⟩ := lo
  obtain ⟨hx, hy⟩ := hi
  unfold ptV at c2
  dsimp only at c1 c2 c4 s1 s2 hwh hin herr
  have HS := Lib.hid (And.intro s1 s2)
  have HIN := Lib.hid hin
  obtain ⟨nl, hnl⟩ : ∃ x, L.length = x := ⟨_, rfl⟩
  obtain ⟨np, hnp⟩ : ∃ x, P.length = x := ⟨_, rfl⟩
  rw [hnl] at c1 c2 c3 c4 kW hW
  rw [hnp] at c1
  rw [hnl] at HS hl
  rw [hnl, hnp]
  obtain ⟨⟨p0, p1⟩, -⟩ := Box.pair kW
  have HK := Lib.hid (And.intro kW bW)
  have C1 := Lib.hid c1
  have C2 := Lib.hid c2
  have C3 := Lib.hid c3
  have C4 := Lib.hid c4
  have C9 := Lib.hid law15_lives
  have HWH := Lib.hid hwh
  by_cases hE : E = 0
  · subst hE
    clear c1 c2 c3 c4 hL hP hp hc hd hnl hnp kW bW s1 s2 hwh hin herr
    go_enter Try.func5, Try.ntmps5
    go_wp2_with first
      | (rw [hW])
      | (go_at_call 6; (with_reducible refine Calls.mono (C1.out _ HK.out.2) ?_); rintro e w1 ⟨⟨q, k, V, rfl, hV, -, r1⟩, b1⟩
         have G1 := Lib.hid (HK.out.2.trans (b1.mono HK.out.2.size))
         have R1 := Lib.hid (And.intro hV r1)
         have K1 := Lib.hid (HK.out.1.below b1 HK.out.1.lt)
         obtain ⟨⟨p0, p1⟩, -⟩ := Box.pair K1.out
         clear b1 hV r1)
      | (go_at_call 16; (with_reducible refine Calls.mono (C2.out _ G1.out) ?_); rintro e w2 ⟨rfl, b2⟩
         obtain ⟨V2, hV2, y1, y2, d2, -⟩ := two_boxes w2 ⟨lx, ly⟩ ⟨hx, hy⟩
         have hb2 := b2.trans (d2.mono b2.size)
         have G2 := Lib.hid (G1.out.trans (hb2.mono G1.out.size))
         have R2 := Lib.hid (R1.out.2.on hb2)
         have K2 := Lib.hid (And.intro (K1.out.below hb2 K1.out.lt) (And.intro y1 y2))
         dsimp only at hV2
         clear b2 d2 y1 y2 hb2)
      | (rw [hV2])
    obtain ⟨nv, hnv⟩ : ∃ nv, V.length = nv := ⟨_, rfl⟩
    have HNV := Lib.hid (And.intro hnv (show nv ≤ 2000 by have := lvs_length R1.out.1; have := HS.out.2; omega))
    (try rw [hnv])
    clear hW hV2 p0 p1 hnv
    go_loopg [12] nv (fun gh it wr => ∃ i : Nat, it = .int .i64 (i : Int) ∧ gh + i = nv ∧ Below V2.heap.size V2 wr)
    case atStart => exact ⟨0, rfl, by omega, Below.refl _ _⟩
    case round =>
      obtain ⟨i, rfl, hg, hB⟩ := hrel
      have hnv2 := HNV.out.2
      have hwi : IntKind.i64.wrap ((i : Int) + 1) = (i : Int) + 1 := IntWalk.i64_in _ (by omega)
      have HB := Lib.hid hB
      have HG := Lib.hid hg
      by_cases hlt : i < nv
      · have hlt' : i < V.length := by rw [HNV.out.1]; exact hlt
        have hil : (i : Int) < (nv : Int) := by omega
        have hmem : V[i] ∈ V := List.getElem_mem hlt'
        have HINL := Lib.hid (show InL ⟨lx, ly⟩ ⟨hx, hy⟩ V[i].pts from HIN.out V[i].ln (by rw [← R1.out.1]; exact List.mem_map.2 ⟨_, hmem, rfl⟩))
        have hsm := lvs_small R1.out.1 HS.out.1 _ hmem
        have HRW := Lib.hid (fun U (hU : Below V2.heap.size V2 U) => RdLn.row (R2.out.on hU) hlt')
        have HPT := Lib.hid (fun U (hU : Below V2.heap.size V2 U) => (R2.out.on hU).2 _ hmem)
        generalize V[i] = y at HINL hsm HRW HPT
        obtain ⟨yA, yc, ypts, ycl⟩ := y
        dsimp only at HINL hsm HRW HPT
        obtain ⟨m, hm⟩ : ∃ m, ypts.length = m := ⟨_, rfl⟩
        have HM := Lib.hid hm
        rw [hm] at hsm
        simp only [hm] at HRW
        clear hlt' hmem hB hg hm
        go_wp2_with fail
        go_loopg [13] m (fun gh jt wr2 => ∃ j : Nat, jt = .int .i64 (j : Int) ∧ gh + j = m ∧ Below V2.heap.size V2 wr2)
        case atStart => exact ⟨0, rfl, by omega, HB.out⟩
        case round =>
          obtain ⟨j, rfl, hgj, hB2⟩ := hrel
          have hwj : IntKind.i64.wrap ((j : Int) + 1) = (j : Int) + 1 := IntWalk.i64_in _ (by omega)
          have HB2 := Lib.hid hB2
          have HGJ := Lib.hid hgj
          obtain ⟨g, o, rfl, hgl, r0, -⟩ := HRW.out _ hB2
          by_cases hltj : j < m
          · have hlj : j < ypts.length := by rw [HM.out]; exact hltj
            have hjl : (j : Int) < (m : Int) := by omega
            obtain ⟨g2, o2, rfl, hgl2, e0, e1⟩ := (HPT.out _ hB2).ptD hlj
            have hbx := getD_in HINL.out hlj
            generalize ypts.getD j pt0 = z at e0 e1 hbx
            obtain ⟨zx, zy⟩ := z
            obtain ⟨⟨h1, h2⟩, h3, h4⟩ := hbx
            dsimp only at e0 e1 h1 h2 h3 h4
            have n1 : ¬ zx < lx := by omega
            have n2 : ¬ hx < zx := by omega
            have n3 : ¬ zy < ly := by omega
            have n4 : ¬ hy < zy := by omega
            obtain ⟨V0, hV0, k0, c0⟩ := endP wr 36 (.int .i64 zx) (.int .i64 zy)
            have hb0 := hB2.trans (c0.mono hB2.size)
            obtain ⟨⟨t0, t1⟩, -⟩ := Box.pair k0
            obtain ⟨⟨a0, a1⟩, -⟩ := Box.pair (K2.out.2.1.below hb0 K2.out.2.1.lt)
            obtain ⟨⟨b0, b1⟩, -⟩ := Box.pair (K2.out.2.2.below hb0 K2.out.2.2.lt)
            have HB0 := Lib.hid hb0
            clear hB2 hgj hlj h1 h2 h3 h4 k0 c0 hb0
            go_wp2_with (rw [hV0])
            go_roundg (m - (j + 1))
            case measure => have := HGJ.out; omega
            case rel => exact ⟨j + 1, by simp, by have := HGJ.out; omega, HB0.out⟩
          · obtain rfl : j = m := by omega
            clear hB2 hgj
            go_wp2_with fail
            go_roundg (nv - (i + 1))
            case measure => have := HG.out; omega
            case rel => exact ⟨i + 1, by simp, by have := HG.out; omega, HB2.out⟩
      · obtain rfl : i = nv := by omega
        obtain ⟨⟨p0, p1⟩, -⟩ := Box.pair (K2.out.1.below hB K2.out.1.lt)
        have G3 := Lib.hid (G2.out.trans (hB.mono G2.out.size))
        have K3 := Lib.hid (K2.out.1.below hB K2.out.1.lt)
        clear hB hg
        rcases (show ¬ 1 ≤ N ∨ (1 ≤ N ∧ ¬ N ≤ 8388607) ∨ (1 ≤ N ∧ N ≤ 8388607 ∧ E2 = 0 ∧ O2.length ≤ 1) from by
          by_cases h1 : 1 ≤ N
          · by_cases h2 : N ≤ 8388607
            · exact .inr (.inr ⟨h1, h2, HWH.out (by trivial) ⟨h1, h2⟩⟩)
            · exact .inr (.inl ⟨h1, h2⟩)
          · exact .inl h1) with h1 | ⟨h1, h2⟩ | ⟨h1, h2, rfl, h3⟩
        all_goals
          go_wp2_with first
            | (go_at_call 17; (with_reducible refine Calls.mono (C3.out _ G3.out) ?_); rintro e w3 ⟨rfl, b3⟩
               have G4 := Lib.hid (G3.out.trans (b3.mono G3.out.size))
               have K4 := Lib.hid (K3.out.below b3 K3.out.lt)
               obtain ⟨⟨p0, p1⟩, -⟩ := Box.pair K4.out
               obtain ⟨U, hU, kU, bU⟩ : ∃ U, w3.alloc (.cells #[.int .i64 N] 3) = U ∧ Box U w3.heap.size 3 [.int .i64 N] ∧ Below w3.heap.size w3 U := ⟨_, rfl, Box.new w3 _ [.int .i64 N], below_new w3 _⟩
               have G5 := Lib.hid (G4.out.trans (bU.mono G4.out.size))
               have RU := Lib.hid (show RdV U U.heap.size (some ⟨w3.heap.size, 0, none⟩) (icells [N]) from kU.rd)
               clear b3 kU bU)
            | (rw [hU])
            | (go_at_call 6; (with_reducible refine Calls.mono (C4.out U G5.out _ _ RU.out (Nat.le_refl _)) ?_); rintro e w4 ⟨⟨q4, k4, V4, rfl, hV4, -, -⟩, b4⟩
               have G6 := Lib.hid (G5.out.trans (b4.mono G5.out.size))
               have hl4 := lvs_length hV4
               (try have hl5 : ¬ (1 : Int) < (V4.length : Int) := by omega)
               clear b4 hV4)
            | (go_at_call 9; (with_reducible refine Calls.mono (C9.out _) ?_); rintro e w5 ⟨rfl, b5⟩)
          go_ret
          exact ⟨rfl, G6.out.trans (b5.mono G6.out.size)⟩
  · obtain rfl := herr hE
    have hEb : (E == 0) = false := by simpa using hE
    have hEc : (E != 0) = true := by simpa using hE
    clear c1 c2 c3 c4 hL hP hp hc hd hnl hnp kW bW s1 s2 hwh hin herr
    go_enter Try.func5, Try.ntmps5
    go_wp2_with first
      | (rw [hW])
      | (go_at_call 6; (with_reducible refine Calls.mono (C1.out _ HK.out.2) ?_); rintro e w1 ⟨⟨q, k, V, rfl, hV, -, -⟩, b1⟩
         have G1 := Lib.hid (HK.out.2.trans (b1.mono HK.out.2.size))
         obtain rfl : V = [] := List.eq_nil_of_length_eq_zero (lvs_length hV)
         simp only [List.length_nil]
         clear b1 hV)
      | (go_at_call 9; (with_reducible refine Calls.mono (C9.out _) ?_); rintro e w5 ⟨rfl, b5⟩)
    go_ret
    exact ⟨rfl, G1.out.trans (b5.mono G1.out.size)⟩
end Go.Proofs.Ytkebffkekinblaa
