/- Fractions: what the program's own Parse answers. -/
import Derived.Test.YtidbpkibjficnaaGreatDoorZFtV
import Derived.Test.YtidbpkibjficnaaGreatDoorZTxtX
namespace Go.Proofs.YtidbpkibjficnaaGreatDoor
open Go.RowKit Num

theorem wparse_er {bs : List UInt8} {N : Int} {er : Nat} (h : IsWParse bs N er) : er = 0 ∨ er = 3 ∨ er = 4 := by
  obtain ⟨neg, ds, M, e0, h1, h2, h3⟩ := h
  rcases h3 with ⟨h0, rfl, -⟩ | ⟨h0, -, rfl, -⟩ | ⟨rfl, h4, rfl, -⟩
  · rcases h2 with ⟨-, -, h5⟩ | ⟨-, -, -, h5⟩ | ⟨-, -, -, h5⟩ <;> omega
  · omega
  · omega
theorem parse_er {bs : List UInt8} {M er : Nat} (h : IsParse bs M er) : er = 0 ∨ er = 3 ∨ er = 4 := by
  rcases h with ⟨-, -, h5⟩ | ⟨-, -, -, h5⟩ | ⟨-, -, -, h5⟩ <;> omega
theorem dec_few_words {x : List Nat} (h : Norm 4294967296 x) {M k : Nat} (hv : val 4294967296 x = M) (hd : (Lib.decDigits M).length ≤ k) : x.length ≤ k := by
  refine h.2.length_le (b := 4294967296) (n := k) (by omega) ?_
  rw [hv, ← decVal_dec M]
  exact Nat.lt_of_lt_of_le (decVal_lt (dec_isDec M).2.2) (Nat.le_trans (Nat.pow_le_pow_right (by omega) hd) (Nat.pow_le_pow_left (by omega) _))
theorem dec_small_words {x : List Nat} (h : Norm 4294967296 x) {M : Nat} (hv : val 4294967296 x = M) (hd : (Lib.decDigits M).length ≤ 2000) : x.length ≤ 2000 := dec_few_words h hv hd
/-- a fraction that was read is handed back -/
theorem fparse_end {w V : World} {g : Nat} {t : TypeId} (k : Blk V g t [.bool false, .slice none 0 0, .slice none 0 0]) (hg : w.heap.size ≤ g) (B : Below w.heap.size w V) {bs : List UInt8} {N : Int} {er : Nat} {A D : Option Addr} {a d : List Nat} {ca cd : Nat} (hc : a.length ≤ ca) (hc' : d.length ≤ cd) (ha : Norm 4294967296 a) (hd : Norm 4294967296 d) (hv : val 4294967296 a = N.natAbs) (hp : IsFParse bs N (val 4294967296 d) er) (r : Rd V (fun g => g < V.heap.size) .u32 A a) (q : Rd V (fun g => g < V.heap.size) .u32 D d) :
    ∃ U, ((V.setCell ⟨g, 0, none⟩ (.bool (decide (N < 0)))).setCell ⟨g, 1, none⟩ (.slice A a.length ca)).setCell ⟨g, 2, none⟩ (.slice D d.length cd) = U ∧ (U.cell? ⟨g, 0, none⟩ = some (.bool (decide (N < 0))) ∧ U.cell? ⟨g, 1, none⟩ = some (.slice A a.length ca) ∧ U.cell? ⟨g, 2, none⟩ = some (.slice D d.length cd)) ∧
      FParses bs w (.returned (.tuple #[.agg #[.bool (decide (N < 0)), .slice A a.length ca, .slice D d.length cd], .int .i64 (er : Nat)])) U := by
  obtain ⟨U, hU, u0, u1, u2, -, bU, -, -⟩ := k.three (.bool (decide (N < 0))) (.slice A a.length ca) (.slice D d.length cd)
  exact ⟨U, hU, ⟨u0, u1, u2⟩, A, a, ca, D, d, cd, er, N, rfl, hc, hc', ha, hd, hv, hp, r.far3 k _ _ _ hU, q.far3 k _ _ _ hU, B.trans (bU _ hg)⟩
theorem fparse_zero {w V : World} {g : Nat} {t : TypeId} (k : Blk V g t [.bool false, .slice none 0 0, .slice none 0 0]) (hg : w.heap.size ≤ g) (B : Below w.heap.size w V) {bs : List UInt8} (hp : IsFParse bs 0 0 3) :
    ∃ U, ((V.setCell ⟨g, 0, none⟩ (.bool false)).setCell ⟨g, 1, none⟩ (.slice none 0 0)).setCell ⟨g, 2, none⟩ (.slice none 0 0) = U ∧ (U.cell? ⟨g, 0, none⟩ = some (.bool false) ∧ U.cell? ⟨g, 1, none⟩ = some (.slice none 0 0) ∧ U.cell? ⟨g, 2, none⟩ = some (.slice none 0 0)) ∧
      FParses bs w (.returned (.tuple #[.agg #[.bool false, .slice none 0 0, .slice none 0 0], .int .i64 3])) U :=
  fparse_end (a := []) (d := []) (N := 0) (er := 3) (ca := 0) (cd := 0) k hg B (Nat.le_refl _) (Nat.le_refl _) (norm_nil _) (norm_nil _) rfl hp Rd.nil Rd.nil

set_option maxRecDepth 10000 in
set_option maxHeartbeats 3200000 in
theorem frac_Parse (t : ByteArray) (hsz : t.size ≤ 20971521) (m : Int) (w : World) (hm : w.cell? ⟨0, 0, none⟩ = some (.int .i64 m)) (hm0 : 0 < w.heap.size) :
    Calls Tryz.prog 41 #[.string t] w (FParses t.data.toList w) := by
  have hlen : t.data.toList.length = t.size := by rw [data_size]
  obtain ⟨bs, hbs⟩ : ∃ bs, t.data.toList = bs := ⟨_, rfl⟩
  obtain ⟨W, hW, k, b0, s0⟩ := bx1 w 26 (.bool false) (.slice none 0 0) (.slice none 0 0)
  have cC := Tryz.strings_Cut t ⟨#[47]⟩ m W (by omega) (by rw [b0.cell hm0]; exact hm)
  rw [show (ByteArray.mk #[47]).data.toList = [47] from rfl] at cC
  rw [hbs] at cC hlen ⊢
  obtain ⟨p0, p1, p2, p3, p4, p5⟩ := k.facts
  have hlt := k.lt
  rcases cut_stroke bs with ⟨xs, ys, hb, hx, hcut⟩ | ⟨hx, hcut⟩
  · rw [hcut] at cC
    simp only [] at cC
    have hxl := cut_len hb
    obtain ⟨s1, hs1⟩ : ∃ s1 : ByteArray, (⟨xs.toArray⟩ : ByteArray) = s1 := ⟨_, rfl⟩
    have hd1 : s1.data.toList = xs := by rw [← hs1]
    obtain ⟨s2, hs2⟩ : ∃ s2 : ByteArray, (⟨ys.toArray⟩ : ByteArray) = s2 := ⟨_, rfl⟩
    have hd2 : s2.data.toList = ys := by rw [← hs2]
    rw [hs1, hs2] at cC
    have cP := whole_Parse s1 (by rw [← data_size, hd1]; omega)
    rw [hd1] at cP
    have cN := nat_Parse_any s2 (by rw [← data_size, hd2]; omega)
    rw [hd2] at cN
    have HX := Lib.hid (And.intro hb (And.intro hx hxl))
    have CC := Lib.hid cC
    have CP := Lib.hid cP
    have CN := Lib.hid cN
    have HK := Lib.hid k
    have HB := Lib.hid b0
    clear hm hm0 cC cP cN hb hx hxl hcut hlen hbs hs1 hs2 hd1 hd2 k b0 s0
    go_enter Tryz.func41, Tryz.ntmps41
    go_wp2_with fail
    try rw [hW]
    clear hW
    refine CC.out.mono ?_
    rintro e w1 ⟨rfl, n1, rfl⟩
    have B1 : Below W.heap.size W (W.drewN n1) := below_drewN (Below.refl _ _) n1
    clear CC
    go_wp2_with fail
    refine (CP.out _).mono ?_
    rintro e w2 ⟨X, x, cx, er, N, rfl, hcx, hnx, hvx, hpx, rx, b2⟩
    have B2 := B1.trans (b2.mono B1.size)
    have K2 := HK.out.below B2 HK.out.lt
    have HP := Lib.hid hpx
    have HN := Lib.hid (And.intro hnx hvx)
    have BW2 := HB.out.trans (B2.mono HB.out.size)
    clear CP
    rcases wparse_er hpx with rfl | rfl | rfl
    · clear hpx
      obtain ⟨V, hV⟩ : ∃ V, w2.alloc (.cells #[.bool (decide (N < 0)), .slice X x.length cx] 24) = V := ⟨_, rfl⟩
      have bV : Below w2.heap.size w2 V := by rw [← hV]; exact below_one w2 _
      have kV : Blk V w2.heap.size 24 [.bool (decide (N < 0)), .slice X x.length cx] := by rw [← hV]; exact Blk.new w2 _ _
      have hsz2 := B2.size
      have KR := K2.below bV K2.lt
      have rV := rx.on bV
      have BV := BW2.trans (bV.mono BW2.size)
      have hltV : w.heap.size < V.heap.size := KR.lt
      have hltN := kV.lt
      have lx := dec_small_words hnx hvx (wparse_len HP.out)
      clear K2 B2 BW2 B1 b2 rx bV
      have HKR := Lib.hid KR
      have HKV := Lib.hid kV
      have HBV := Lib.hid BV
      clear KR kV BV
      go_wp2_with fail
      try rw [hV]
      clear hV
      refine (CN.out V).mono ?_
      rintro e w3 ⟨Y, y, cy, er2, rfl, hcy, hny, hpy, ry, b3⟩
      have r3 := rV.on b3
      have K3 := HKR.out.below b3 HKR.out.lt
      have kN := HKV.out.below b3 HKV.out.lt
      have B3 := HBV.out.trans (b3.mono HBV.out.size)
      obtain ⟨q0, q1, -, -⟩ := kN.facts2
      obtain ⟨i0, i1, i2, i3, i4, i5⟩ := K3.facts
      clear rV CN
      rcases parse_er hpy with rfl | rfl | rfl
      · have hbo := fparse_both HX.out.1 HX.out.2.1 HP.out hpy
        have hyl : (Lib.decDigits (val 4294967296 y)).length ≤ 2000 := by
          rcases hpy with ⟨-, -, h5⟩ | ⟨-, -, -, h5⟩ | ⟨h5, h6, h7, -⟩
          · omega
          · omega
          · rw [h7, dec_back h6]; exact h5
        have ly := dec_small_words hny rfl hyl
        by_cases hg : 2 ≤ val 4294967296 y ∧ Nat.gcd N.natAbs (val 4294967296 y) = 1
        · have cT := frac_tells (decide (N < 0)) x y X Y cx cy w3 r3 ry (by omega) (by omega) hcx hcy hnx.1 hny.1 true (by rw [hvx]; exact decide_eq_true hg)
          have HS := Lib.hid (And.intro (hbo.1 hg.1 hg.2) hny)
          have HA := Lib.hid (And.intro r3 (And.intro ry B3))
          have HK3 := Lib.hid K3
          have HKN := Lib.hid kN
          clear hbo hyl hpy hg r3 ry B3 K3 kN b3 i0 i1 i2 i3 i4 i5 hnx hvx hny
          go_wp2_with fail
          refine cT.mono ?_
          rintro e w4 ⟨rfl, b4⟩
          have K4 := HK3.out.below b4 HK3.out.lt
          have kN4 := HKN.out.below b4 HKN.out.lt
          obtain ⟨q0, q1, -, -⟩ := kN4.facts2
          obtain ⟨i0, i1, i2, i3, i4, i5⟩ := K4.facts
          obtain ⟨U, hU, hf, hG⟩ := fparse_end (w := w) (bs := bs) K4 (Nat.le_refl _) (HA.out.2.2.trans (b4.mono HA.out.2.2.size)) hcx hcy HN.out.1 HS.out.2 HN.out.2 HS.out.1 (HA.out.1.on b4) (HA.out.2.1.on b4)
          have HU := Lib.hid hU
          have HF := Lib.hid hf
          have HG := Lib.hid hG
          clear hU hf hG K4 kN4 b4 cT
          go_wp2_with fail
          rw [HU.out]
          obtain ⟨u0, u1, u2⟩ := HF.out
          exact bodyPost_ret (v := .tuple #[.agg #[.bool (decide (N < 0)), .slice X x.length cx, .slice Y y.length cy], .int .i64 0]) (by simp [results, Tryz.results41, go_sem, u0, u1, u2]) rfl HG.out
        · have cT := frac_tells (decide (N < 0)) x y X Y cx cy w3 r3 ry (by omega) (by omega) hcx hcy hnx.1 hny.1 false (by rw [hvx]; exact decide_eq_false hg)
          have HS := Lib.hid (hbo.2 hg)
          have HA := Lib.hid B3
          have HK3 := Lib.hid K3
          have HKN := Lib.hid kN
          clear hbo hyl hpy hg r3 ry B3 K3 kN b3 i0 i1 i2 i3 i4 i5 hnx hvx hny
          go_wp2_with fail
          refine cT.mono ?_
          rintro e w4 ⟨rfl, b4⟩
          have K4 := HK3.out.below b4 HK3.out.lt
          obtain ⟨i0, i1, i2, i3, i4, i5⟩ := K4.facts
          obtain ⟨U, hU, hf, hG⟩ := fparse_zero (w := w) (bs := bs) K4 (Nat.le_refl _) (HA.out.trans (b4.mono HA.out.size)) HS.out
          have HU := Lib.hid hU
          have HF := Lib.hid hf
          have HG := Lib.hid hG
          clear hU hf hG K4 b4 cT
          go_wp2_with fail
          rw [HU.out]
          obtain ⟨u0, u1, u2⟩ := HF.out
          exact bodyPost_ret (v := .tuple #[.agg #[.bool false, .slice none 0 0, .slice none 0 0], .int .i64 3]) (by simp [results, Tryz.results41, go_sem, u0, u1, u2]) rfl HG.out
      all_goals
        obtain ⟨U, hU, hf, hG⟩ := fparse_zero (w := w) (bs := bs) K3 (Nat.le_refl _) B3 (fparse_behind HX.out.1 HX.out.2.1 hpy (by omega))
        have HU := Lib.hid hU
        have HF := Lib.hid hf
        have HG := Lib.hid hG
        clear hU hf hG K3 kN B3 b3 hpy hnx hvx hny ry r3
        go_wp2_with fail
        rw [HU.out]
        obtain ⟨u0, u1, u2⟩ := HF.out
        exact bodyPost_ret (v := .tuple #[.agg #[.bool false, .slice none 0 0, .slice none 0 0], .int .i64 3]) (by simp [results, Tryz.results41, go_sem, u0, u1, u2]) rfl HG.out
    all_goals
      clear hpx hnx hvx
      obtain ⟨V, hV⟩ : ∃ V, w2.alloc (.cells #[.bool (decide (N < 0)), .slice X x.length cx] 24) = V := ⟨_, rfl⟩
      have bV : Below w2.heap.size w2 V := by rw [← hV]; exact below_one w2 _
      have hsz2 := B2.size
      have KV := K2.below bV K2.lt
      obtain ⟨i0, i1, i2, i3, i4, i5⟩ := KV.facts
      obtain ⟨U, hU, hf, hG⟩ := fparse_zero (w := w) (bs := bs) KV (Nat.le_refl _) (BW2.trans (bV.mono BW2.size)) (fparse_ahead HX.out.1 HX.out.2.1 HP.out (by omega))
      have HU := Lib.hid hU
      have HF := Lib.hid hf
      have HG := Lib.hid hG
      clear hU hf hG K2 B2 BW2 B1 b2 rx KV bV
      go_wp2_with fail
      rw [HU.out]
      obtain ⟨u0, u1, u2⟩ := HF.out
      exact bodyPost_ret (v := .tuple #[.agg #[.bool false, .slice none 0 0, .slice none 0 0], .int .i64 3]) (by simp [results, Tryz.results41, go_sem, u0, u1, u2]) rfl HG.out
  · rw [hcut] at cC
    simp only [] at cC
    obtain ⟨s1, hs1⟩ : ∃ s1 : ByteArray, (⟨bs.toArray⟩ : ByteArray) = s1 := ⟨_, rfl⟩
    have hd1 : s1.data.toList = bs := by rw [← hs1]
    obtain ⟨s2, hs2⟩ : ∃ s2 : ByteArray, (⟨([] : List UInt8).toArray⟩ : ByteArray) = s2 := ⟨_, rfl⟩
    rw [hs1, hs2] at cC
    have cP := whole_Parse s1 (by rw [← data_size, hd1]; omega)
    rw [hd1] at cP
    have cO := fun (V : World) => frac_one V
    have HX := Lib.hid hx
    have CC := Lib.hid cC
    have CP := Lib.hid cP
    have CO := Lib.hid cO
    have HK := Lib.hid k
    have HB := Lib.hid b0
    clear hm hm0 cC cP cO hx hcut hlen hbs hs1 hs2 hd1 k b0 s0
    go_enter Tryz.func41, Tryz.ntmps41
    go_wp2_with fail
    try rw [hW]
    clear hW
    refine CC.out.mono ?_
    rintro e w1 ⟨rfl, n1, rfl⟩
    have B1 : Below W.heap.size W (W.drewN n1) := below_drewN (Below.refl _ _) n1
    clear CC
    go_wp2_with fail
    refine (CP.out _).mono ?_
    rintro e w2 ⟨X, x, cx, er, N, rfl, hcx, hnx, hvx, hpx, rx, b2⟩
    have B2 := B1.trans (b2.mono B1.size)
    have K2 := HK.out.below B2 HK.out.lt
    have BW2 := HB.out.trans (B2.mono HB.out.size)
    obtain ⟨V, hV⟩ : ∃ V, w2.alloc (.cells #[.bool (decide (N < 0)), .slice X x.length cx] 24) = V := ⟨_, rfl⟩
    have bV : Below w2.heap.size w2 V := by rw [← hV]; exact below_one w2 _
    have kV : Blk V w2.heap.size 24 [.bool (decide (N < 0)), .slice X x.length cx] := by rw [← hV]; exact Blk.new w2 _ _
    have hsz2 := B2.size
    have KR := K2.below bV K2.lt
    have rV := rx.on bV
    have BV := BW2.trans (bV.mono BW2.size)
    obtain ⟨i0, i1, i2, i3, i4, i5⟩ := KR.facts
    obtain ⟨q0, q1, -, -⟩ := kV.facts2
    clear CP
    rcases wparse_er hpx with rfl | rfl | rfl
    · have HS := Lib.hid (And.intro ((fparse_plain HX.out hpx).1 rfl) (And.intro hnx hvx))
      have HKR := Lib.hid KR
      have HKV := Lib.hid kV
      have HBV := Lib.hid BV
      have hltV : w.heap.size < V.heap.size := KR.lt
      have hltN := kV.lt
      have K0 : Below V.heap.size V V.drew := below_drewN (Below.refl _ _) 1
      clear hnx hvx hpx KR kV BV K2 B2 BW2 B1 b2 rx bV i0 i1 i2 i3 i4 i5 p0 p1 p2 p3 p4 p5
      go_wp2_with fail
      try rw [hV]
      clear hV
      have hne : w2.heap.size ≠ w.heap.size := by omega
      go_region_held3 (fun w' => w'.cell? ⟨w2.heap.size, 0, none⟩ = some (.bool (decide (N < 0))) ∧ w'.cell? ⟨w2.heap.size, 1, none⟩ = some (.slice X x.length cx))
        (first | (with_reducible exact keep2w HKV.out K0) | (with_reducible exact keep2w HKV.out KA) | (with_reducible exact far_cells2 (HKV.out.below KA HKV.out.lt) hne _ _ _) | go_keep)
        ((first
          | (go_at_call 66; (with_reducible refine Calls.mono (CO.out V.drew) ?_); rintro e w3 ⟨Y, y, cy, rfl, hcy, hny, hvy, ry, b3⟩; have KA := below_next K0 (Nat.le_refl _) b3; obtain ⟨i0, i1, i2, i3, i4, i5⟩ := (HKR.out.below KA HKR.out.lt).facts)))
      all_goals
        have hP := HS.out.1
        obtain ⟨U, hU, hf, hG⟩ := fparse_end (w := w) (bs := bs) (er := 0) (HKR.out.below KA HKR.out.lt) (Nat.le_refl _) (HBV.out.trans (KA.mono HBV.out.size)) hcx hcy HS.out.2.1 hny HS.out.2.2 (by rw [hvy]; exact hP) (rV.on KA) ry
        have HU := Lib.hid hU
        have HF := Lib.hid hf
        have HG := Lib.hid hG
        clear hU hf hG hP hny hvy ry rV KA b3 i0 i1 i2 i3 i4 i5
        go_wp2_with fail
        rw [HU.out]
        obtain ⟨u0, u1, u2⟩ := HF.out
        exact bodyPost_ret (v := .tuple #[.agg #[.bool (decide (N < 0)), .slice X x.length cx, .slice Y y.length cy], .int .i64 0]) (by simp [results, Tryz.results41, go_sem, u0, u1, u2]) rfl HG.out
    all_goals
      obtain ⟨U, hU, hf, hG⟩ := fparse_zero (w := w) (bs := bs) KR (Nat.le_refl _) BV ((fparse_plain HX.out hpx).2 (by omega))
      have HU := Lib.hid hU
      have HF := Lib.hid hf
      have HG := Lib.hid hG
      clear hU hf hG hnx hvx hpx KR kV BV K2 B2 BW2 B1 b2 rx bV rV
      go_wp2_with fail
      rw [HU.out]
      obtain ⟨u0, u1, u2⟩ := HF.out
      exact bodyPost_ret (v := .tuple #[.agg #[.bool false, .slice none 0 0, .slice none 0 0], .int .i64 3]) (by simp [results, Tryz.results41, go_sem, u0, u1, u2]) rfl HG.out
end Go.Proofs.YtidbpkibjficnaaGreatDoor
