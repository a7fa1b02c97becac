/- Fractions, the document's own: what Int, Half, Make, Div and Cmp answer. -/
import Derived.Test.YtbhahddgajkchaaZFrY
import Derived.Test.YtbhahddgajkchaaZWrY
namespace Go.Proofs.Ytbhahddgajkchaa
open Go.RowKit Num

set_option maxRecDepth 10000 in
set_option maxHeartbeats 800000 in
/-- a whole number -/
theorem ref4_Int (n : Int) (hn1 : -9223372036854775808 ≤ n) (hn2 : n ≤ 9223372036854775807) (w : World) :
    Calls Try.prog 32 #[.int .i64 n] w (GivesF n 1 w) := by
  obtain ⟨W, hW, k, b0, s0⟩ := frac_box w (.bool false) (.slice none 0 0) (.slice none 0 0)
  have cO := fun (V : World) => ref2_Of n hn1 hn2 V
  go_enter Try.func32, Try.ntmps32
  go_wp2_with fail
  try rw [hW]
  clear hW
  refine (cO W).mono ?_
  rintro e w1 ⟨X, x, cx, rfl, hcx, hnx, hvx, rx, b1⟩
  obtain ⟨V, hV, r1, b2, s2⟩ := one_word w1 1 1 rfl
  have B1 := b0.trans (b1.mono b0.size)
  have K1 := (k.below b1 k.lt).below b2 (k.below b1 k.lt).lt
  have hk := k.lt
  have s1 := b1.size
  have rV := rx.on b2
  obtain ⟨i0, i1, i2, i3, i4, i5⟩ := K1.facts
  obtain ⟨Z, hZ, u0, u1, u2, hG⟩ := fin_frac (w := w) (P := n) (Q := 1) K1 (by omega) (B1.trans (b2.mono (by omega))) hcx (show [1].length ≤ 1 by simp) hnx (norm_one (by omega) (by omega)) (by rw [Nat.gcd_one_right, Nat.div_one]; exact hvx) (by rw [Nat.gcd_one_right]; rfl) rV r1
  simp only [List.length_singleton] at hZ u2 hG
  have HZ := Lib.hid hZ
  have HF := Lib.hid (And.intro u0 (And.intro u1 u2))
  have HG := Lib.hid hG
  have HX := Lib.hid rV
  clear hZ u0 u1 u2 hG cO k K1 hvx rx r1 rV b1 B1 b2
  go_wp2_with fail
  rw [HZ.out]
  obtain ⟨u0, u1, u2⟩ := HF.out
  exact bodyPost_ret (by simp [results, Try.results32, go_sem, u0, u1, u2]) rfl HG.out

set_option maxRecDepth 10000 in
set_option maxHeartbeats 800000 in
/-- one by two -/
theorem ref4_Half (w : World) :
    Calls Try.prog 50 #[] w (GivesF 1 2 w) := by
  obtain ⟨W, hW, k, b0, s0⟩ := frac_box w (.bool false) (.slice none 0 0) (.slice none 0 0)
  have cO := fun (V : World) => ref2_Of 1 (by omega) (by omega) V
  go_enter Try.func50, Try.ntmps50
  go_wp2_with fail
  try rw [hW]
  clear hW
  refine (cO W).mono ?_
  rintro e w1 ⟨X, x, cx, rfl, hcx, hnx, hvx, rx, b1⟩
  obtain ⟨V, hV, r1, b2, s2⟩ := one_word w1 2 2 rfl
  have B1 := b0.trans (b1.mono b0.size)
  have K1 := (k.below b1 k.lt).below b2 (k.below b1 k.lt).lt
  have hk := k.lt
  have s1 := b1.size
  have rV := rx.on b2
  obtain ⟨i0, i1, i2, i3, i4, i5⟩ := K1.facts
  obtain ⟨Z, hZ, u0, u1, u2, hG⟩ := fin_frac (w := w) (P := 1) (Q := 2) K1 (by omega) (B1.trans (b2.mono (by omega))) hcx (show [2].length ≤ 1 by simp) hnx (norm_one (by omega) (by omega)) (by rw [hvx]; rfl) (by rfl) rV r1
  simp only [List.length_singleton, show decide ((1 : Int) < 0) = false from rfl] at hZ u0 u2 hG
  have HZ := Lib.hid hZ
  have HF := Lib.hid (And.intro u0 (And.intro u1 u2))
  have HG := Lib.hid hG
  have HX := Lib.hid rV
  clear hZ u0 u1 u2 hG cO k K1 hvx rx r1 rV b1 B1 b2
  go_wp2_with fail
  rw [HZ.out]
  obtain ⟨u0, u1, u2⟩ := HF.out
  exact bodyPost_ret (by simp [results, Try.results50, go_sem, u0, u1, u2]) rfl HG.out

end Go.Proofs.Ytbhahddgajkchaa
/- Fractions, the document's own: what Make, Div and Cmp answer. -/

namespace Go.Proofs.Ytbhahddgajkchaa
open Go.RowKit Num

/-- a fraction, or 5 where the lower part is 0 -/
def GivesFE (P : Int) (Q : Nat) (w : World) (e : Ending) (w' : World) : Prop :=
  (Q = 0 ∧ e = .returned (.tuple #[.agg #[.bool false, .slice none 0 0, .slice none 0 0], .int .i64 5]) ∧ Below w.heap.size w w') ∨
    (0 < Q ∧ ∃ v, e = .returned (.tuple #[v, .int .i64 0]) ∧ GivesF P Q w (.returned v) w')
theorem keep2w {W V : World} {g : Nat} {t : TypeId} {a0 a1 : Value} (k : Blk W g t [a0, a1]) (hb : Below W.heap.size W V) : V.cell? ⟨g, 0, none⟩ = some a0 ∧ V.cell? ⟨g, 1, none⟩ = some a1 := by
  have k' := k.below hb k.lt
  exact ⟨k'.cell 0 rfl, k'.cell 1 rfl⟩
theorem far_cells2 {v : World} {g g' : Nat} {t : TypeId} {a0 a1 : Value} (k : Blk v g t [a0, a1]) (hne : g ≠ g') (u0 u1 u2 : Value) :
    (((v.setCell ⟨g', 0, none⟩ u0).setCell ⟨g', 1, none⟩ u1).setCell ⟨g', 2, none⟩ u2).cell? ⟨g, 0, none⟩ = some a0 ∧ (((v.setCell ⟨g', 0, none⟩ u0).setCell ⟨g', 1, none⟩ u1).setCell ⟨g', 2, none⟩ u2).cell? ⟨g, 1, none⟩ = some a1 := by
  have k' := ((k.far (p := ⟨g', 0, none⟩) hne u0).far (p := ⟨g', 1, none⟩) hne u1).far (p := ⟨g', 2, none⟩) hne u2
  exact ⟨k'.cell 0 rfl, k'.cell 1 rfl⟩
/-- two whole numbers' boxes and the one of a result that is a fraction -/
theorem whole_boxesf (w : World) (v0 v1 u0 u1 : Value) : ∃ W, ((w.alloc (.cells #[v0, v1] 48)).alloc (.cells #[u0, u1] 48)).alloc (.cells #[.bool false, .slice none 0 0, .slice none 0 0] 50) = W ∧ Blk W w.heap.size 48 [v0, v1] ∧ Blk W (w.heap.size + 1) 48 [u0, u1] ∧ Blk W (w.heap.size + 1 + 1) 50 [.bool false, .slice none 0 0, .slice none 0 0] ∧ Below w.heap.size w W ∧ W.heap.size = w.heap.size + 3 :=
  ⟨_, rfl, ((Blk.new w 48 [v0, v1]).alloc _).alloc _, (Blk.at_new (w.alloc (.cells #[v0, v1] 48)) 48 [u0, u1] (by simp)).alloc _, Blk.at_new ((w.alloc (.cells #[v0, v1] 48)).alloc (.cells #[u0, u1] 48)) 50 [.bool false, .slice none 0 0, .slice none 0 0] (by simp),
    (((below_one w _).alloc (by simp) _).alloc (by simp; omega) _), by simp⟩

set_option maxRecDepth 10000 in
set_option maxHeartbeats 1600000 in
/-- a number by another one -/
theorem ref4_Make (n n' : Bool) (a d : List Nat) (A D : Option Addr) (ca cd : Nat) (w : World) (h : Rd w (fun g => g < w.heap.size) .u32 A a) (h' : Rd w (fun g => g < w.heap.size) .u32 D d) (hl : a.length ≤ 4194304) (hl' : d.length ≤ 4194304) (ha : Dg 4294967296 a) (hd : Dg 4294967296 d) :
    Calls Try.prog 43 #[.agg #[.bool n, .slice A a.length ca], .agg #[.bool n', .slice D d.length cd]] w (GivesFE (wv (!(n == n')) a) (val 4294967296 d) w) := by
  obtain ⟨W, hW, k1, k2, k3, b0, s0⟩ := whole_boxesf w (.bool n) (.slice A a.length ca) (.bool n') (.slice D d.length cd)
  have cG := ref2_Sign n' d D cd W (h'.on b0) (by omega) hd
  have hab := wv_abs n' d
  obtain ⟨z, hz⟩ : ∃ z, sgn (wv n' d) = z := ⟨_, rfl⟩
  rw [hz] at cG
  have p := k2.cell 0 rfl
  have q := k2.cell 1 rfl
  by_cases hd0 : val 4294967296 d = 0
  · have : wv n' d = 0 := by omega
    rw [this] at hz
    obtain rfl : z = 0 := by rw [← hz]; rfl
    clear hz hab this
    go_enter Try.func43, Try.ntmps43
    go_wp2_with fail
    try rw [hW]
    refine cG.mono ?_
    rintro e w1 ⟨rfl, b1⟩
    have K3 := k3.below b1 k3.lt
    obtain ⟨i0, i1, i2, j0, j1, j2⟩ := K3.facts
    obtain ⟨U, hU, u0, u1, u2, kU, bU, oU, sU⟩ := K3.three (.bool false) (.slice none 0 0) (.slice none 0 0)
    have B := (b0.trans (b1.mono b0.size)).trans (bU w.heap.size (by omega))
    have HZ := Lib.hid hU
    have HF := Lib.hid (And.intro u0 (And.intro u1 u2))
    have HB := Lib.hid B
    clear hU u0 u1 u2 kU bU oU sU B b1 K3 k1 k2 k3 cG
    go_wp2_with fail
    rw [HZ.out]
    obtain ⟨u0, u1, u2⟩ := HF.out
    exact bodyPost_ret (v := .tuple #[.agg #[.bool false, .slice none 0 0, .slice none 0 0], .int .i64 5]) (by simp [results, Try.results43, go_sem, u0, u1, u2]) rfl (.inl ⟨hd0, rfl, HB.out⟩)
  · have hzn : ¬ z = 0 := by
      rw [← hz]
      unfold sgn
      split
      · omega
      · split <;> omega
    have hdp : 0 < val 4294967296 d := by omega
    have HDP := Lib.hid hdp
    have cM := fun (V : World) (hV : Below W.heap.size W V) => ref2_Make (!(n == n')) a A ca _ V ((h.on b0).on hV) (by omega) ha rfl
    obtain ⟨P, hP⟩ : ∃ P, wv (!(n == n')) a = P := ⟨_, rfl⟩
    have cR : ∀ (V : World) (x : List Nat) (X : Option Addr) (cx : Nat), Below W.heap.size W V → Rd V (fun g => g < V.heap.size) .u32 X x → Norm 4294967296 x → val 4294967296 x = P.natAbs → Calls Try.prog 60 #[.agg #[.bool (decide (P < 0)), .slice X x.length cx, .slice D d.length cd]] V (GivesF P (val 4294967296 d) V) := fun V x X cx hV hx hn hv => by
      have lx := len_le (b := 4294967296) (by omega) hn.2 ha (by rw [hv, ← hP, wv_abs]; exact Nat.le_refl _)
      have := ref4_Reduce (decide (P < 0)) x d X D cx cd V hx ((h'.on b0).on hV) (by omega) (by omega) hn.1 hd
      rwa [upN_of hdp, loD_of hdp, wv_dec hv] at this
    simp only [hP] at cM
    rw [hP]
    have CM := Lib.hid cM
    have CR := Lib.hid cR
    have HK1 := Lib.hid k1
    have HK2 := Lib.hid k2
    have HK3 := Lib.hid k3
    have HB0 := Lib.hid b0
    have hlt : w.heap.size + 2 < W.heap.size := by omega
    clear cM cR hz hab hd0 hdp k1 k2 k3 hP b0 h h'
    go_enter Try.func43, Try.ntmps43
    go_wp2_with fail
    try rw [hW]
    refine cG.mono ?_
    rintro e w1 ⟨rfl, b1⟩
    clear cG p q hW
    have K0 : Below W.heap.size W w1.drew := below_drewN b1 1
    have HK0 := Lib.hid K0
    obtain ⟨x0, x1⟩ := keep2w HK1.out b1
    obtain ⟨y0, y1⟩ := keep2w HK2.out b1
    obtain ⟨i0, i1, i2, i3, i4, i5⟩ := (HK3.out.below b1 HK3.out.lt).facts
    go_wp2_with fail
    go_region_held3 (fun w' => (w'.cell? ⟨w.heap.size, 0, none⟩ = some (.bool n) ∧ w'.cell? ⟨w.heap.size, 1, none⟩ = some (.slice A a.length ca)) ∧ (w'.cell? ⟨w.heap.size + 1, 0, none⟩ = some (.bool n') ∧ w'.cell? ⟨w.heap.size + 1, 1, none⟩ = some (.slice D d.length cd)))
      (first | (with_reducible exact ⟨keep2w HK1.out K0, keep2w HK2.out K0⟩) | (with_reducible exact ⟨keep2w HK1.out KA, keep2w HK2.out KA⟩) | (with_reducible exact ⟨keep2w HK1.out KB, keep2w HK2.out KB⟩) | (with_reducible exact ⟨far_cells2 (HK1.out.below KB HK1.out.lt) (by omega) _ _ _, far_cells2 (HK2.out.below KB HK2.out.lt) (by omega) _ _ _⟩) | go_keep)
      ((first
        | (go_at_call 61; (with_reducible refine Calls.mono (CM.out _ K0) ?_); rintro e w2 ⟨X, x, cx, rfl, hcx, hnx, hvx, rx, b2⟩; have KA := below_next K0 (Nat.le_refl _) b2)
        | (go_at_call 60; (with_reducible refine Calls.mono (CR.out _ x X cx KA rx hnx hvx) ?_); rintro e w3 ⟨A3, a3, c3, D3, d3, e3, rfl, hc3, hd3, hn3, hm3, hv3, hu3, r3, q3, b3⟩; have KB := below_next KA (Nat.le_refl _) b3; obtain ⟨i0, i1, i2, j0, j1, j2⟩ := (HK3.out.below KB HK3.out.lt).facts)))
    obtain ⟨Z, hZ, u0, u1, u2, hG⟩ := fin_frac (w := w) (HK3.out.below KB HK3.out.lt) (by omega) (HB0.out.trans (KB.mono HB0.out.size)) hc3 hd3 hn3 hm3 hv3 hu3 r3 q3
    have HZ := Lib.hid hZ
    have HF := Lib.hid (And.intro u0 (And.intro u1 u2))
    have HG := Lib.hid hG
    clear hZ u0 u1 u2 hG hv3 hu3 hvx r3 q3 rx i0 i1 i2 j0 j1 j2 CM CR
    go_wp2_with fail
    rw [HZ.out]
    obtain ⟨u0, u1, u2⟩ := HF.out
    exact bodyPost_ret (v := .tuple #[.agg #[.bool (decide (P < 0)), .slice A3 a3.length c3, .slice D3 d3.length e3], .int .i64 0]) (by simp [results, Try.results43, go_sem, u0, u1, u2]) rfl (.inr ⟨HDP.out, _, rfl, HG.out⟩)
end Go.Proofs.Ytbhahddgajkchaa
/- Fractions, the document's own: what Cmp answers. -/

namespace Go.Proofs.Ytbhahddgajkchaa
open Go.RowKit Num

/-- two arguments' boxes -/
theorem frac_pair (w : World) (v0 v1 v2 u0 u1 u2 : Value) : ∃ W, (w.alloc (.cells #[v0, v1, v2] 50)).alloc (.cells #[u0, u1, u2] 50) = W ∧ Blk W w.heap.size 50 [v0, v1, v2] ∧ Blk W (w.heap.size + 1) 50 [u0, u1, u2] ∧ Below w.heap.size w W ∧ W.heap.size = w.heap.size + 2 :=
  ⟨_, rfl, (Blk.new w 50 [v0, v1, v2]).alloc _, Blk.at_new (w.alloc (.cells #[v0, v1, v2] 50)) 50 [u0, u1, u2] (by simp),
    ((below_one w _).alloc (by simp) _), by simp⟩

end Go.Proofs.Ytbhahddgajkchaa
/- Fractions, the document's own: what Div answers. -/

namespace Go.Proofs.Ytbhahddgajkchaa
open Go.RowKit Num

/-- what stands in a fraction and an error that are answered together -/
def Fit (P : Int) (Q : Nat) (n : Bool) (A : Option Addr) (la ca : Nat) (D : Option Addr) (ld cd : Nat) (c : Int) (w' : World) : Prop :=
  (Q = 0 ∧ n = false ∧ A = none ∧ la = 0 ∧ ca = 0 ∧ D = none ∧ ld = 0 ∧ cd = 0 ∧ c = 5) ∨
    (0 < Q ∧ n = decide (P < 0) ∧ c = 0 ∧ ∃ a d, la = a.length ∧ ld = d.length ∧ a.length ≤ ca ∧ d.length ≤ cd ∧ Norm 4294967296 a ∧ Norm 4294967296 d ∧ val 4294967296 a = P.natAbs / Nat.gcd P.natAbs Q ∧ val 4294967296 d = Q / Nat.gcd P.natAbs Q ∧ Rd w' (fun g => g < w'.heap.size) .u32 A a ∧ Rd w' (fun g => g < w'.heap.size) .u32 D d)
theorem GivesFE.one {P : Int} {Q : Nat} {w w' : World} {e : Ending} (h : GivesFE P Q w e w') : ∃ n A la ca D ld cd c, e = .returned (.tuple #[.agg #[.bool n, .slice A la ca, .slice D ld cd], .int .i64 c]) ∧ Fit P Q n A la ca D ld cd c w' ∧ Below w.heap.size w w' := by
  rcases h with ⟨h0, rfl, b⟩ | ⟨h0, v, rfl, A, a, ca, D, d, cd, he, h1, h2, h3, h4, h5, h6, h7, h8, b⟩
  · exact ⟨_, _, _, _, _, _, _, _, rfl, .inl ⟨h0, rfl, rfl, rfl, rfl, rfl, rfl, rfl, rfl⟩, b⟩
  · cases he
    exact ⟨_, _, _, _, _, _, _, _, rfl, .inr ⟨h0, rfl, rfl, a, d, rfl, rfl, h1, h2, h3, h4, h5, h6, h7, h8⟩, b⟩
/-- both stored where they lie -/
theorem fin_fit {w v : World} {g : Nat} {t : TypeId} (k : Blk v g t [.bool false, .slice none 0 0, .slice none 0 0]) (hg : w.heap.size ≤ g) (B : Below w.heap.size w v) {P : Int} {Q : Nat} {n : Bool} {A D : Option Addr} {la ca ld cd : Nat} {c : Int} (F : Fit P Q n A la ca D ld cd c v) :
    ∃ U, ((v.setCell ⟨g, 0, none⟩ (.bool n)).setCell ⟨g, 1, none⟩ (.slice A la ca)).setCell ⟨g, 2, none⟩ (.slice D ld cd) = U ∧ U.cell? ⟨g, 0, none⟩ = some (.bool n) ∧ U.cell? ⟨g, 1, none⟩ = some (.slice A la ca) ∧ U.cell? ⟨g, 2, none⟩ = some (.slice D ld cd) ∧
      GivesFE P Q w (.returned (.tuple #[.agg #[.bool n, .slice A la ca, .slice D ld cd], .int .i64 c])) U := by
  rcases F with ⟨h0, rfl, rfl, rfl, rfl, rfl, rfl, rfl, rfl⟩ | ⟨h0, rfl, rfl, a, d, rfl, rfl, h1, h2, h3, h4, h5, h6, h7, h8⟩
  · obtain ⟨U, hU, u0, u1, u2, -, bU, -, -⟩ := k.three (.bool false) (.slice none 0 0) (.slice none 0 0)
    exact ⟨U, hU, u0, u1, u2, .inl ⟨h0, rfl, B.trans (bU _ hg)⟩⟩
  · obtain ⟨U, hU, u0, u1, u2, hG⟩ := fin_frac k hg B h1 h2 h3 h4 h5 h6 h7 h8
    exact ⟨U, hU, u0, u1, u2, .inr ⟨h0, _, rfl, hG⟩⟩
/-- the upper part of a number by another one, that may be below 0 -/
def acrossN (P1 P2 : Int) : Int := if P2 < 0 then - P1 else P1
/-- the sign of a number by another one -/
theorem wv_across {P1 P2 : Int} {x : List Nat} (h : val 4294967296 x = P1.natAbs) : wv (!(decide (P1 < 0) == decide (P2 < 0))) x = acrossN P1 P2 := by
  unfold acrossN
  by_cases h2 : P2 < 0
  · rw [if_pos h2, decide_eq_true h2]
    by_cases h1 : P1 < 0
    · rw [decide_eq_true h1]
      show wv false x = _
      rw [wv_false, h]; omega
    · rw [decide_eq_false h1]
      show wv true x = _
      rw [wv_true, h]; omega
  · rw [if_neg h2, decide_eq_false h2]
    by_cases h1 : P1 < 0
    · rw [decide_eq_true h1]
      show wv true x = _
      rw [wv_true, h]; omega
    · rw [decide_eq_false h1]
      show wv false x = _
      rw [wv_false, h]; omega

set_option maxRecDepth 10000 in
set_option maxHeartbeats 1600000 in
/-- one by another one -/
theorem ref4_Div (n n' : Bool) (a d a' d' : List Nat) (A D A' D' : Option Addr) (ca cd ca' cd' : Nat) (w : World) (h1 : Rd w (fun g => g < w.heap.size) .u32 A a) (h2 : Rd w (fun g => g < w.heap.size) .u32 D d) (h3 : Rd w (fun g => g < w.heap.size) .u32 A' a') (h4 : Rd w (fun g => g < w.heap.size) .u32 D' d') (hl1 : a.length ≤ 2097152) (hl2 : d.length ≤ 2097152) (hl3 : a'.length ≤ 2097152) (hl4 : d'.length ≤ 2097152) (ha : Dg 4294967296 a) (hd : Dg 4294967296 d) (ha' : Dg 4294967296 a') (hd' : Dg 4294967296 d') :
    Calls Try.prog 31 #[.agg #[.bool n, .slice A a.length ca, .slice D d.length cd], .agg #[.bool n', .slice A' a'.length ca', .slice D' d'.length cd']] w (GivesFE (acrossN (upN n a d * (loD d' : Int)) (upN n' a' d' * (loD d : Int))) (upN n' a' d' * (loD d : Int)).natAbs w) := by
  obtain ⟨W, hW, k1, k2, k3, b0, s0⟩ := frac_boxes2 w (.bool n) (.slice A a.length ca) (.slice D d.length cd) (.bool n') (.slice A' a'.length ca') (.slice D' d'.length cd')
  obtain ⟨p0, p1, p2, p3, p4, p5⟩ := k1.facts
  obtain ⟨z0, z1, z2, z3, z4, z5⟩ := k2.facts
  have c1 := fun (V : World) (hV : Below W.heap.size W V) => ref4_worth n a d A D ca cd 2097152 V ((h1.on b0).on hV) ((h2.on b0).on hV) (by omega) (by omega) hl1 hl2 ha hd
  have c2 := fun (V : World) (hV : Below W.heap.size W V) => ref4_worth n' a' d' A' D' ca' cd' 2097152 V ((h3.on b0).on hV) ((h4.on b0).on hV) (by omega) (by omega) hl3 hl4 ha' hd'
  have K0 : Below W.heap.size W W.drew := below_drewN (Below.refl _ _) 1
  have C1 := Lib.hid c1
  have C2 := Lib.hid c2
  have HK1 := Lib.hid k1
  have HK2 := Lib.hid k2
  have HK3 := Lib.hid k3
  have hlt : w.heap.size + 2 < W.heap.size := by omega
  have HH := Lib.hid (And.intro h1 (And.intro h2 (And.intro h3 h4)))
  clear c1 c2 k1 k2 k3 h1 h2 h3 h4
  go_enter Try.func31, Try.ntmps31
  go_wp2_with fail
  try rw [hW]
  clear hW
  go_cut [] from 6 (fun wc => Worthed w wc 2097152 (upN n a d) (loD d) (upN n' a' d') (loD d') ∧ (∀ g t vs, g ≠ w.heap.size → g ≠ w.heap.size + 1 → Blk W g t vs → Blk wc g t vs))
  case first =>
    go_region_with (first
      | (go_at_call_of 42 (Value.slice A a.length ca); (with_reducible refine Calls.mono (C1.out _ K0) ?_); rintro e w1 ⟨n1, a1, A1, c1, d1, D1, e1, rfl, x1, x2, x3, x4, x5, x6, r1, q1, b1⟩; have KA := below_next K0 (Nat.le_refl _) b1; obtain ⟨m0, m1, m2, m3, m4, m5⟩ := (HK1.out.below KA HK1.out.lt).facts; obtain ⟨o0, o1, o2, o3, o4, o5⟩ := (HK2.out.below KA HK2.out.lt).facts)
      | (go_at_call_of 42 (Value.slice A' a'.length ca'); (with_reducible refine Calls.mono (C2.out _ KA) ?_); rintro e w2 ⟨n2, a2, A2, c2, d2, D2, e2, rfl, y1, y2, y3, y4, y5, y6, r2, q2, b2⟩; have KB := below_next KA (Nat.le_refl _) b2; obtain ⟨m6, m7, m8, m9, ma, mb⟩ := (HK1.out.below KB HK1.out.lt).facts; obtain ⟨o6, o7, o8, o9, oa, ob⟩ := (HK2.out.below KB HK2.out.lt).facts))
    all_goals
      have hw := worthed (c1 := c1) (e1 := e1) (c2 := c2) (e2 := e2) (HK1.out.below KB HK1.out.lt) (HK2.out.below KB HK2.out.lt) (b0.trans (KB.mono b0.size)) x1 x2 y1 y2 x3 x4 y3 y4 x5 x6 y5 y6 (r1.on b2) (q1.on b2) r2 q2
      have HW := Lib.hid hw
      have HKB := Lib.hid KB
      clear hw KB KA b1 b2 r1 q1 r2 q2 x1 x2 x3 x4 x5 x6 y1 y2 y3 y4 y5 y6 m0 m1 m2 m3 m4 m5 m6 m7 m8 m9 ma mb o0 o1 o2 o3 o4 o5 o6 o7 o8 o9 oa ob
      go_wp2_with fail
      go_meet
      exact ⟨HW.out.1, fun g t vs g1 g2 k => HW.out.2 g t vs g1 g2 (k.below HKB.out k.lt)⟩
  case rest =>
    obtain ⟨⟨n1, a1, A1, c1, d1, D1, e1, n2, a2, A2, c2, d2, D2, e2, kU, kV, x1, x2, y1, y2, x3, x4, y3, y4, x5, x6, y5, y6, r1, q1, r2, q2, bU⟩, hO⟩ := hcut
    have kR := hO _ _ _ (by omega) (by omega) HK3.out
    have hlt2 : w.heap.size + 2 < wc.heap.size := kR.lt
    have K0' : Below wc.heap.size wc wc.drew := below_drewN (Below.refl _ _) 1
    obtain ⟨P1, hP1⟩ : ∃ P, wv n1 a1 * wv false d2 = P := ⟨_, rfl⟩
    obtain ⟨P2, hP2⟩ : ∃ P, wv n2 a2 * wv false d1 = P := ⟨_, rfl⟩
    have cU1 := fun (V : World) => ref4_up n1 a1 d1 A1 D1 c1 e1 V
    have cU2 := fun (V : World) => ref4_up n2 a2 d2 A2 D2 c2 e2 V
    have cM1 := fun (V : World) (hV : Below wc.heap.size wc V) => ref2_Mul n1 false a1 d2 A1 D2 c1 e2 V (r1.on hV) (q2.on hV) (by omega) (by omega) x1 y2
    have cM2 := fun (V : World) (hV : Below wc.heap.size wc V) => ref2_Mul n2 false a2 d1 A2 D1 c2 e1 V (r2.on hV) (q1.on hV) (by omega) (by omega) y1 x2
    simp only [hP1] at cM1
    simp only [hP2] at cM2
    have hl1 : ∀ x : List Nat, Norm 4294967296 x → val 4294967296 x = P1.natAbs → x.length ≤ 4194304 := fun x hn hv => Nat.le_trans (len_mul (b := 4294967296) (by omega) hn.2 x1 y2 (by rw [hv, ← hP1, Int.natAbs_mul, wv_abs, wv_abs])) (by omega)
    have hl2 : ∀ x : List Nat, Norm 4294967296 x → val 4294967296 x = P2.natAbs → x.length ≤ 4194304 := fun x hn hv => Nat.le_trans (len_mul (b := 4294967296) (by omega) hn.2 y1 x2 (by rw [hv, ← hP2, Int.natAbs_mul, wv_abs, wv_abs])) (by omega)
    have cC : ∀ (V : World) (x y : List Nat) (X Y : Option Addr) (cx cy : Nat), Rd V (fun g => g < V.heap.size) .u32 X x → Rd V (fun g => g < V.heap.size) .u32 Y y → Norm 4294967296 x → Norm 4294967296 y → val 4294967296 x = P1.natAbs → val 4294967296 y = P2.natAbs → Calls Try.prog 43 #[.agg #[.bool (decide (P1 < 0)), .slice X x.length cx], .agg #[.bool (decide (P2 < 0)), .slice Y y.length cy]] V (GivesFE (acrossN P1 P2) P2.natAbs V) := fun V x y X Y cx cy hx hy hn hm hv hu => by
      have lx := hl1 x hn hv
      have ly := hl2 y hm hu
      have := ref4_Make (decide (P1 < 0)) (decide (P2 < 0)) x y X Y cx cy V hx hy (by omega) (by omega) hn.1 hm.1
      rwa [wv_across hv, hu] at this
    obtain ⟨P, hP⟩ : ∃ P, acrossN P1 P2 = P := ⟨_, rfl⟩
    obtain ⟨Q, hQ⟩ : ∃ Q, P2.natAbs = Q := ⟨_, rfl⟩
    have HE := Lib.hid (show acrossN (upN n a d * (loD d' : Int)) (upN n' a' d' * (loD d : Int)) = P ∧ (upN n' a' d' * (loD d : Int)).natAbs = Q by
      rw [← x5, ← x6, ← y5, ← y6, ← hQ, ← hP, ← hP1, ← hP2, wv_false, wv_false]
      exact ⟨rfl, rfl⟩)
    have cC' : ∀ (V : World) (x y : List Nat) (X Y : Option Addr) (cx cy : Nat), Rd V (fun g => g < V.heap.size) .u32 X x → Rd V (fun g => g < V.heap.size) .u32 Y y → Norm 4294967296 x → Norm 4294967296 y → val 4294967296 x = P1.natAbs → val 4294967296 y = P2.natAbs → Calls Try.prog 43 #[.agg #[.bool (decide (P1 < 0)), .slice X x.length cx], .agg #[.bool (decide (P2 < 0)), .slice Y y.length cy]] V (GivesFE P Q V) := fun V x y X Y cx cy hx hy hn hm hv hu => by
      have := cC V x y X Y cx cy hx hy hn hm hv hu
      rwa [hP, hQ] at this
    have CU1 := Lib.hid cU1
    have CU2 := Lib.hid cU2
    have CM1 := Lib.hid cM1
    have CM2 := Lib.hid cM2
    have CC := Lib.hid cC'
    have HKU := Lib.hid kU
    have HKV := Lib.hid kV
    have HKR := Lib.hid kR
    have HBU := Lib.hid bU
    clear cU1 cU2 cM1 cM2 cC' cC kU kV kR bU hO hP1 hP2 hP hQ hl1 hl2 r1 q1 r2 q2 C1 C2 HK1 HK2 HK3 HH K0 p0 p1 p2 p3 p4 p5 z0 z1 z2 z3 z4 z5 b0 s0 hlt x5 x6 y5 y6
    go_wp2_with fail
    go_region_held3 (fun w' => (w'.cell? ⟨w.heap.size, 0, none⟩ = some (.bool n1) ∧ w'.cell? ⟨w.heap.size, 1, none⟩ = some (.slice A1 a1.length c1) ∧ w'.cell? ⟨w.heap.size, 2, none⟩ = some (.slice D1 d1.length e1)) ∧ (w'.cell? ⟨w.heap.size + 1, 0, none⟩ = some (.bool n2) ∧ w'.cell? ⟨w.heap.size + 1, 1, none⟩ = some (.slice A2 a2.length c2) ∧ w'.cell? ⟨w.heap.size + 1, 2, none⟩ = some (.slice D2 d2.length e2)))
      (first | (with_reducible exact ⟨keep3 HKU.out K0', keep3 HKV.out K0'⟩) | (with_reducible exact ⟨keep3 HKU.out KA, keep3 HKV.out KA⟩) | (with_reducible exact ⟨keep3 HKU.out KB, keep3 HKV.out KB⟩) | (with_reducible exact ⟨keep3 HKU.out KC, keep3 HKV.out KC⟩) | (with_reducible exact ⟨keep3 HKU.out KD, keep3 HKV.out KD⟩) | (with_reducible exact ⟨keep3 HKU.out KE, keep3 HKV.out KE⟩) | (with_reducible exact ⟨far_cells (HKU.out.below KE HKU.out.lt) (by omega) _ _ _, far_cells (HKV.out.below KE HKV.out.lt) (by omega) _ _ _⟩) | go_keep)
      ((first
        | (go_at_call_of 45 (Value.slice A2 a2.length c2); (with_reducible refine Calls.mono (CU2.out _) ?_); rintro e w2 ⟨rfl, b2⟩; have KA := below_next K0' (Nat.le_refl _) b2)
        | (go_at_call_of 44 (Value.slice A1 a1.length c1); (with_reducible refine Calls.mono (CM1.out _ KA) ?_); rintro e w3 ⟨X, x, cx, rfl, hcx, hnx, hvx, rx, b3⟩; have KB := below_next KA (Nat.le_refl _) b3)
        | (go_at_call_of 45 (Value.slice A1 a1.length c1); (with_reducible refine Calls.mono (CU1.out _) ?_); rintro e w4 ⟨rfl, b4⟩; have KC := below_next KB (Nat.le_refl _) b4)
        | (go_at_call_of 44 (Value.slice A2 a2.length c2); (with_reducible refine Calls.mono (CM2.out _ KC) ?_); rintro e w5 ⟨Y, y, cy, rfl, hcy, hny, hvy, ry, b5⟩; have KD := below_next KC (Nat.le_refl _) b5)
        | (go_at_call 43; (with_reducible refine Calls.mono (CC.out _ x y X Y cx cy (rx.on (b4.trans (b5.mono b4.size))) ry hnx hny hvx hvy) ?_); rintro e w6 h6; obtain ⟨n6, A6, la, c6, D6, ld, e6, er, rfl, f6, b6⟩ := h6.one; clear h6; have KE := below_next KD (Nat.le_refl _) b6; obtain ⟨i0, i1, i2, j0, j1, j2⟩ := (HKR.out.below KE HKR.out.lt).facts)))
    obtain ⟨Z, hZ, u0, u1, u2, hG⟩ := fin_fit (w := w) (HKR.out.below KE HKR.out.lt) (by omega) (HBU.out.trans (KE.mono HBU.out.size)) f6
    have HZ := Lib.hid hZ
    have HF := Lib.hid (And.intro u0 (And.intro u1 u2))
    have HG := Lib.hid hG
    clear hZ u0 u1 u2 hG f6 i0 i1 i2 j0 j1 j2 CM1 CM2 CU1 CU2 CC
    go_wp2_with fail
    rw [HZ.out]
    obtain ⟨u0, u1, u2⟩ := HF.out
    refine bodyPost_ret (v := .tuple #[.agg #[.bool n6, .slice A6 la c6, .slice D6 ld e6], .int .i64 er]) (by simp [results, Try.results31, go_sem, u0, u1, u2]) rfl ?_
    rw [HE.out.1, HE.out.2]
    exact HG.out
end Go.Proofs.Ytbhahddgajkchaa
