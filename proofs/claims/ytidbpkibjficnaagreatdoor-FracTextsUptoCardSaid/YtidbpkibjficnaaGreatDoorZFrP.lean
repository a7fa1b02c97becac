/- Fractions, the document's own: what Parse answers. -/
import Derived.Test.YtidbpkibjficnaaGreatDoorZFtX
namespace Go.Proofs.YtidbpkibjficnaaGreatDoor
open Go.RowKit Num

/-- the first stroke at or after a place, or the end -/
def Seen (bs : List UInt8) (g q : Nat) : Prop := g ≤ q ∧ q ≤ bs.length ∧ (∀ j, g ≤ j → j < q → bs[j]? ≠ some 47) ∧ (q < bs.length → bs[q]? = some 47)
theorem Seen.start (bs : List UInt8) : Seen bs bs.length bs.length := ⟨Nat.le_refl _, Nat.le_refl _, fun j h1 h2 => by omega, fun h => by omega⟩
theorem Seen.hit {bs : List UInt8} {g q : Nat} (h : Seen bs (g + 1) q) (e : bs[g]? = some 47) : Seen bs g g := ⟨Nat.le_refl _, by have := h.1; have := h.2.1; omega, fun j h1 h2 => by omega, fun _ => e⟩
theorem Seen.miss {bs : List UInt8} {g q : Nat} (h : Seen bs (g + 1) q) (e : bs[g]? ≠ some 47) : Seen bs g q := ⟨by have := h.1; omega, h.2.1, fun j h1 h2 => by
  rcases Nat.lt_or_ge g j with h3 | h3
  · exact h.2.2.1 j h3 h2
  · obtain rfl : j = g := by omega
    exact e, h.2.2.2⟩
theorem Seen.ends {bs : List UInt8} {q : Nat} (h : Seen bs 0 q) : (q = bs.length ∧ ∀ c ∈ bs, c ≠ 47) ∨ (q < bs.length ∧ bs = bs.take q ++ 47 :: bs.drop (q + 1) ∧ ∀ c ∈ bs.take q, c ≠ 47) := by
  obtain ⟨-, h2, h3, h4⟩ := h
  have hno : ∀ c ∈ bs.take q, c ≠ 47 := fun c hc e => by
    subst e
    obtain ⟨j, hj, e⟩ := List.mem_iff_getElem.1 hc
    rw [List.length_take] at hj
    rw [List.getElem_take] at e
    exact h3 j (by omega) (by omega) (by rw [List.getElem?_eq_getElem (by omega), e])
  rcases Nat.lt_or_ge q bs.length with h5 | h5
  · refine .inr ⟨h5, ?_, hno⟩
    obtain ⟨_, e⟩ := List.getElem?_eq_some_iff.1 (h4 h5)
    rw [← e, ← List.drop_eq_getElem_cons h5, List.take_append_drop]
  · obtain rfl : q = bs.length := by omega
    rw [List.take_length] at hno
    exact .inl ⟨rfl, hno⟩
/-- its text is the one that was read -/
theorem ftext_one (N : Int) : ftext N 1 = wtext N := by
  have hg : Nat.gcd N.natAbs 1 = 1 := Nat.gcd_one_right _
  have : ftop N 1 = N := by
    unfold ftop
    rw [hg]
    split <;> omega
  unfold ftext
  rw [hg, if_pos (by decide), this]
theorem ftext_iff {bs xs ys : List UInt8} (hb : bs = xs ++ 47 :: ys) (hc : ∀ c ∈ xs, c ≠ 47) {N : Int} {M : Nat} (hM : 0 < M) (h : IsWParse xs N 0) (k : IsParse ys M 0) : ftext N M = bs ↔ (2 ≤ M ∧ Nat.gcd N.natAbs M = 1) := by
  have hx := wtext_back h
  have hy : ys = Lib.decDigits M := by
    rcases k with ⟨-, -, h5⟩ | ⟨-, -, -, h5⟩ | ⟨h5, h6, rfl, -⟩
    · omega
    · omega
    · exact (dec_back h6).symm
  constructor
  · intro e
    unfold ftext at e
    split at e
    · exact absurd rfl (no_stroke _ 47 (by rw [e, hb]; simp))
    · rename_i hne
      obtain ⟨-, e2⟩ := stroke_split (no_stroke _) hc (e.trans hb)
      have e3 := congrArg decVal (e2.trans hy)
      rw [decVal_dec, decVal_dec] at e3
      rw [e3] at hne
      have hg : 0 < Nat.gcd N.natAbs M := Nat.gcd_pos_of_pos_right _ hM
      refine ⟨by omega, ?_⟩
      have h1 := Nat.div_mul_cancel (Nat.gcd_dvd_right N.natAbs M)
      rw [e3] at h1
      exact Nat.eq_of_mul_eq_mul_left hM (by omega)
  · rintro ⟨h2, hg⟩
    have : ftop N M = N := by
      unfold ftop
      rw [hg]
      split <;> omega
    unfold ftext
    rw [hg, Nat.div_one, if_neg (by omega), this, ← hx, ← hy, hb]

theorem wv_back {N : Int} {x : List Nat} (h : val 4294967296 x = N.natAbs) : wv (decide (N < 0)) x = N := by
  by_cases hN : N < 0
  · rw [decide_eq_true hN, wv_true, h]; omega
  · rw [decide_eq_false hN, wv_false, h]; omega
theorem bytes_eq {u t : ByteArray} {xs : List UInt8} (hu : (⟨xs.toArray⟩ : ByteArray) = u) {bs : List UInt8} (ht : t.data.toList = bs) : u = t ↔ xs = bs := by
  subst hu; subst ht
  constructor
  · intro e
    rw [← e]
  · intro e
    rw [e]

set_option maxRecDepth 10000 in
set_option maxHeartbeats 3200000 in
theorem ref4_Parse (t : ByteArray) (hsz : t.size ≤ 1048576) (w : World) :
    Calls Tryz.prog 42 #[.string t] w (FParses t.data.toList w) := by
  obtain ⟨bs, hbs⟩ : ∃ bs, t.data.toList = bs := ⟨_, rfl⟩
  have hlen : bs.length = t.size := by rw [← hbs]; exact data_size t
  have hget : ∀ j (h : j < t.size), bs[j]? = some t[j] := fun j h => by subst hbs; rw [List.getElem?_eq_getElem (by rw [data_size]; exact h), data_get t h]
  have HST := Lib.hid (Seen.start bs)
  obtain ⟨W, hW, k, b0, s0⟩ := bx1 w 26 (.bool false) (.slice none 0 0) (.slice none 0 0)
  have HK := Lib.hid k
  have HB := Lib.hid b0
  have HBS := Lib.hid hbs
  have HLEN := Lib.hid hlen
  have HGET := Lib.hid hget
  rw [hbs]
  clear hbs hlen hget k b0
  go_enter Tryz.func42, Tryz.ntmps42
  go_wp2_with fail
  try rw [hW]
  clear hW s0
  go_loopg [4, 5] t.size (fun gh a i wr => ((∃ p : Nat, gh = p + 1 ∧ i = .int .i64 p) ∨ (gh = 0 ∧ i = .int .i64 (-1))) ∧ gh ≤ t.size ∧ ∃ q m : Nat, a = .int .i64 q ∧ Seen bs gh q ∧ wr = W.drewN m)
  case atStart =>
    have h1 := HST.out
    rw [HLEN.out] at h1
    refine ⟨?_, Nat.le_refl _, t.size, 0, rfl, h1, rfl⟩
    rcases Nat.eq_zero_or_pos t.size with h2 | h2
    · exact .inr ⟨h2, by rw [h2]; rfl⟩
    · exact .inl ⟨t.size - 1, by omega, by congr 1; omega⟩
  case round =>
    obtain ⟨⟨p, rfl, rfl⟩ | ⟨rfl, rfl⟩, hg, q, m, rfl, hs, rfl⟩ := hrel
    · have hp : p < t.size := by omega
      have hgp := HGET.out p hp
      obtain ⟨c, hc⟩ : ∃ c, (t[p]'hp) = c := ⟨_, rfl⟩
      rw [hc] at hgp
      by_cases h47 : c = 47
      · have HS := Lib.hid (hs.hit (by rw [hgp, h47]))
        have h47n : ((c.toNat : Int) == 47) = true := by rw [h47]; rfl
        clear hs hgp h47
        go_wp2_with fail
        go_roundg p
        case measure => omega
        case rel =>
          refine ⟨?_, by omega, p, _, rfl, HS.out, rfl⟩
          rcases Nat.eq_zero_or_pos p with h2 | h2
          · exact .inr ⟨h2, by rw [h2]; rfl⟩
          · exact .inl ⟨p - 1, by omega, by congr 1; omega⟩
      · have HS := Lib.hid (hs.miss (by rw [hgp]; exact fun e => h47 (Option.some.inj e)))
        have h47n : ((c.toNat : Int) == 47) = false := beq_eq_false_iff_ne.2 fun e => h47 (UInt8.toNat_inj.1 (show c.toNat = 47 by omega))
        clear hs hgp h47
        go_wp2_with fail
        go_roundg p
        case measure => omega
        case rel =>
          refine ⟨?_, by omega, q, _, rfl, HS.out, rfl⟩
          rcases Nat.eq_zero_or_pos p with h2 | h2
          · exact .inr ⟨h2, by rw [h2]; rfl⟩
          · exact .inl ⟨p - 1, by omega, by congr 1; omega⟩
    · have hql : q ≤ t.size := by rw [← HLEN.out]; exact hs.2.1
      have cP : ∀ (s1 : ByteArray) (V : World), s1.data.toList = bs.take q → Calls Tryz.prog 84 #[.string s1] V (WParses (bs.take q) V) := fun s1 V e => by
        have := ref2_Parse s1 (by rw [← data_size, e, List.length_take]; omega) V
        rwa [e] at this
      have HE := Lib.hid hs.ends
      have hex : (t.extract 0 q).data.toList = bs.take q := by rw [extract_data, HBS.out]; rfl
      have CP := Lib.hid cP
      have HX := Lib.hid hex
      clear hs cP hex
      go_wp2_with fail
      refine (CP.out _ _ HX.out).mono ?_
      rintro e w2 ⟨X, x, cx, er, N, rfl, hcx, hnx, hvx, hpx, rx, b2⟩
      clear CP HST HGET
      have BW : Below W.heap.size W (W.drewN m) := below_drewN (Below.refl _ _) m
      have B2 := BW.trans (b2.mono BW.size)
      have hlt := HK.out.lt
      have K2 := HK.out.below B2 hlt
      have BW2 := HB.out.trans (B2.mono HB.out.size)
      obtain ⟨V, hV⟩ : ∃ V, w2.alloc (.cells #[.bool (decide (N < 0)), .slice X x.length cx] 24) = V := ⟨_, rfl⟩
      have bV : Below w2.heap.size w2 V := by rw [← hV]; exact below_one w2 _
      have kV : Blk V w2.heap.size 24 [.bool (decide (N < 0)), .slice X x.length cx] := by rw [← hV]; exact Blk.new w2 _ _
      have hsz2 := B2.size
      have KR := K2.below bV K2.lt
      have rV := rx.on bV
      have BV := BW2.trans (bV.mono BW2.size)
      rcases wparse_er hpx with rfl | rfl | rfl
      · have lx := dec_small_words hnx hvx (wparse_len hpx)
        have hltV : w.heap.size < V.heap.size := KR.lt
        have hltN := kV.lt
        have sV : V.heap.size = w2.heap.size + 1 := by rw [← hV]; simp
        obtain ⟨U, hU, rU, bU, sU⟩ := one_word V 1 1 rfl
        rw [sV] at rU sU
        have rx' := rV.on bU
        have KU := KR.below bU hltV
        have kU := kV.below bU hltN
        have BU := BV.trans (bU.mono BV.size)
        have HV := Lib.hid hV
        have HU := Lib.hid hU
        have HKU := Lib.hid KU
        have HkU := Lib.hid kU
        have HBU := Lib.hid BU
        have HS := Lib.hid (And.intro hnx (And.intro hvx hpx))
        clear hV hU KU kU BU hnx hvx hpx KR kV BV K2 B2 BW2 BW b2 rx bV rV
        rcases HE.out with ⟨h1, h2⟩ | ⟨h1, h2, h3⟩
        · obtain rfl : q = t.size := h1.trans HLEN.out
          have HE2 := Lib.hid h2
          clear h1 h2
          obtain ⟨p0, p1, -, -⟩ := HkU.out.facts2
          obtain ⟨T, hT, KT, bT, sT⟩ := bx1 U 26 (.bool (decide (N < 0))) (.slice X x.length cx) (.slice (some ⟨w2.heap.size + 1, 0, none⟩) 1 1)
          rw [sU] at KT sT
          have cT := ref4_Text (decide (N < 0)) x [1] X (some ⟨w2.heap.size + 1, 0, none⟩) cx 1 T (rx'.on bT) (rU.on bT) (by omega) (by simp) HS.out.1.1 (by simp [Dg])
          rw [upN_of (by decide), loD_of (by decide), show val 4294967296 [1] = 1 from rfl, wv_back HS.out.2.1, ftext_one] at cT
          have hpl : IsWParse bs N 0 := by
            have := HS.out.2.2
            rwa [show t.size = bs.length from HLEN.out.symm, List.take_length] at this
          rw [← wtext_back hpl] at cT
          obtain ⟨u, hu⟩ : ∃ u : ByteArray, (⟨bs.toArray⟩ : ByteArray) = u := ⟨_, rfl⟩
          obtain rfl : u = t := (bytes_eq hu HBS.out).2 rfl
          rw [hu] at cT
          have HP := Lib.hid ((fparse_plain HE2.out hpl).1 rfl)
          have HT := Lib.hid hT
          have HKT := Lib.hid KT
          have HBT := Lib.hid (HBU.out.trans (bT.mono HBU.out.size))
          have HR := Lib.hid (And.intro (rx'.on bT) (rU.on bT))
          obtain ⟨z0, z1, z2, -, -, -⟩ := KT.facts
          have hgT := KT.lt
          have KRT := HKU.out.below bT HKU.out.lt
          have HKRT := Lib.hid KRT
          simp only [List.length_singleton] at cT
          clear hu hpl hT KT bT rx' rU KRT sT sU sV
          go_wp2_with fail
          rw [HV.out, HU.out, HT.out]
          refine cT.mono ?_
          rintro e w3 ⟨rfl, b3⟩
          have K3 := HKRT.out.below b3 HKRT.out.lt
          have kT3 := HKT.out.below b3 hgT
          have B3 := HBT.out.trans (b3.mono HBT.out.size)
          obtain ⟨z0, z1, z2, -, -, -⟩ := kT3.facts
          obtain ⟨i0, i1, i2, i3, i4, i5⟩ := K3.facts
          obtain ⟨Z, hZ, hf, hG⟩ := fparse_end (w := w) (bs := bs) (er := 0) (d := [1]) (cd := 1) K3 (Nat.le_refl _) B3 hcx (by simp) HS.out.1 (norm_one (by omega) (by omega)) HS.out.2.1 HP.out (HR.out.1.on b3) (HR.out.2.on b3)
          simp only [List.length_singleton] at hZ hf hG
          have HZ := Lib.hid hZ
          have HF := Lib.hid hf
          have HG := Lib.hid hG
          clear hZ hf hG K3 kT3 B3 b3 cT
          go_wp2_with fail
          rw [HZ.out]
          obtain ⟨u0, u1, u2⟩ := HF.out
          exact bodyPost_ret (v := .tuple #[.agg #[.bool (decide (N < 0)), .slice X x.length cx, .slice (some ⟨w2.heap.size + 1, 0, none⟩) 1 1], .int .i64 0]) (by simp [results, Tryz.results42, go_sem, u0, u1, u2]) rfl HG.out
        · have hqt : (q : Int) < (t.size : Int) := by have := HLEN.out; omega
          have HE2 := Lib.hid (And.intro h2 h3)
          have cN : ∀ (s2 : ByteArray) (V : World), s2.data.toList = bs.drop (q + 1) → Calls Tryz.prog 85 #[.string s2] V (Parses (bs.drop (q + 1)) V) := fun s2 V e => by
            have := ref_Parse s2 (by rw [← data_size, e, List.length_drop, HLEN.out]; omega) V
            rwa [e] at this
          have hex : (t.extract (q + 1) t.size).data.toList = bs.drop (q + 1) := by rw [extract_data, HBS.out, List.take_of_length_le (by rw [List.length_drop, HLEN.out]; exact Nat.le_refl _)]
          have CN := Lib.hid cN
          have HX2 := Lib.hid hex
          clear h1 h2 h3 cN hex sU sV
          obtain ⟨p0, p1, -, -⟩ := HkU.out.facts2
          go_wp2_with fail
          rw [HV.out, HU.out]
          refine (CN.out _ _ HX2.out).mono ?_
          rintro e w3 ⟨Y, y, cy, er2, rfl, hcy, hny, hpy, ry, b3⟩
          have hltU := HKU.out.lt
          have hltU2 := HkU.out.lt
          have K3 := HKU.out.below b3 hltU
          have k3 := HkU.out.below b3 hltU2
          have B3 := HBU.out.trans (b3.mono HBU.out.size)
          have r3 := rx'.on b3
          obtain ⟨T, hT, KT, bT, sT⟩ := bx1 w3 26 (.bool (decide (N < 0))) (.slice X x.length cx) (.slice Y y.length cy)
          have KRT := K3.below bT K3.lt
          have BT := B3.trans (bT.mono B3.size)
          have rT := r3.on bT
          have qT := ry.on bT
          obtain ⟨p0, p1, -, -⟩ := k3.facts2
          have hgT := KT.lt
          have hltT := KRT.lt
          clear CN HX2 rx' rU
          rcases parse_er hpy with rfl | rfl | rfl
          · have ly : y.length ≤ 2000 := dec_small_words hny rfl (by
              rcases hpy with ⟨-, -, h5⟩ | ⟨-, -, -, h5⟩ | ⟨h5, h6, h7, -⟩
              · omega
              · omega
              · rw [h7, dec_back h6]; exact h5)
            have hbo := fparse_both HE2.out.1 HE2.out.2 HS.out.2.2 hpy
            rcases Nat.eq_zero_or_pos (val 4294967296 y) with h0 | h0
            · obtain rfl : y = [] := (hny.2.nil_iff (b := 4294967296) (by omega)).2 h0
              simp only [List.length_nil] at hT
              obtain ⟨i0, i1, i2, i3, i4, i5⟩ := KRT.facts
              obtain ⟨Z, hZ, hf, hG⟩ := fparse_zero (w := w) (bs := bs) KRT (Nat.le_refl _) BT (hbo.2 fun h => by omega)
              have HZ := Lib.hid hZ
              have HF := Lib.hid hf
              have HG := Lib.hid hG
              clear hZ hf hG KRT KT BT bT rT qT r3 ry K3 k3 B3 b3 hny hpy sT hbo h0
              go_wp2_with fail
              rw [HZ.out]
              obtain ⟨u0, u1, u2⟩ := HF.out
              exact bodyPost_ret (v := .tuple #[.agg #[.bool false, .slice none 0 0, .slice none 0 0], .int .i64 3]) (by simp [results, Tryz.results42, go_sem, u0, u1, u2]) rfl HG.out
            · have hyl : 0 < y.length := by
                rcases Nat.eq_zero_or_pos y.length with h | h
                · rw [(hny.2.nil_iff (b := 4294967296) (by omega)).1 (List.eq_nil_of_length_eq_zero h)] at h0
                  exact absurd h0 (Nat.lt_irrefl _)
                · exact h
              have hyl2 : ((y.length : Int) == 0) = false := beq_eq_false_iff_ne.2 (by omega)
              have hyl3 : ¬ y.length = 0 := by omega
              have hyl4 : ¬ y = [] := fun e => hyl3 (by rw [e]; rfl)
              have cT := ref4_Text (decide (N < 0)) x y X Y cx cy T rT qT (by omega) (by omega) HS.out.1.1 hny.1
              rw [upN_of h0, loD_of h0, wv_back HS.out.2.1] at cT
              have hfi := ftext_iff HE2.out.1 HE2.out.2 h0 HS.out.2.2 hpy
              obtain ⟨u, hu⟩ : ∃ u : ByteArray, (⟨(ftext N (val 4294967296 y)).toArray⟩ : ByteArray) = u := ⟨_, rfl⟩
              have hut := bytes_eq hu HBS.out
              rw [hu] at cT
              have HT := Lib.hid hT
              have HKT := Lib.hid KT
              have HKRT := Lib.hid KRT
              have HBT := Lib.hid BT
              have HR := Lib.hid (And.intro rT qT)
              have HNY := Lib.hid hny
              by_cases hgg : 2 ≤ val 4294967296 y ∧ Nat.gcd N.natAbs (val 4294967296 y) = 1
              · obtain rfl : u = t := hut.2 (hfi.2 hgg)
                have HP := Lib.hid (hbo.1 hgg.1 hgg.2)
                clear hfi hut hu hbo hgg h0 KRT KT BT bT rT qT r3 ry K3 k3 B3 b3 hny hpy sT hT
                go_wp2_with fail
                rw [HT.out]
                refine cT.mono ?_
                rintro e w4 ⟨rfl, b4⟩
                have K4 := HKRT.out.below b4 hltT
                have kT4 := HKT.out.below b4 hgT
                have B4 := HBT.out.trans (b4.mono HBT.out.size)
                obtain ⟨z0, z1, z2, -, -, -⟩ := kT4.facts
                obtain ⟨i0, i1, i2, i3, i4, i5⟩ := K4.facts
                obtain ⟨Z, hZ, hf, hG⟩ := fparse_end (w := w) (bs := bs) (er := 0) K4 (Nat.le_refl _) B4 hcx hcy HS.out.1 HNY.out HS.out.2.1 HP.out (HR.out.1.on b4) (HR.out.2.on b4)
                have HZ := Lib.hid hZ
                have HF := Lib.hid hf
                have HG := Lib.hid hG
                clear hZ hf hG K4 kT4 B4 b4 cT
                go_wp2_with fail
                rw [HZ.out]
                obtain ⟨u0, u1, u2⟩ := HF.out
                exact bodyPost_ret (v := .tuple #[.agg #[.bool (decide (N < 0)), .slice X x.length cx, .slice Y y.length cy], .int .i64 0]) (by simp [results, Tryz.results42, go_sem, u0, u1, u2]) rfl HG.out
              · have hne : ¬ u = t := fun e => hgg (hfi.1 (hut.1 e))
                have hne3 : ¬ u.toList = t.toList := fun e => hne (by
                  rw [ByteArray.toList_eq, ByteArray.toList_eq] at e
                  exact ByteArray.ext (Array.ext' e))
                have hne2 : (u.toList == t.toList) = false := beq_eq_false_iff_ne.2 hne3
                have HP := Lib.hid (hbo.2 hgg)
                clear hfi hut hu hbo hgg h0 KRT KT BT bT rT qT r3 ry K3 k3 B3 b3 hny hpy sT hT
                go_wp2_with fail
                rw [HT.out]
                refine cT.mono ?_
                rintro e w4 ⟨rfl, b4⟩
                have K4 := HKRT.out.below b4 hltT
                have B4 := HBT.out.trans (b4.mono HBT.out.size)
                obtain ⟨i0, i1, i2, i3, i4, i5⟩ := K4.facts
                obtain ⟨Z, hZ, hf, hG⟩ := fparse_zero (w := w) (bs := bs) K4 (Nat.le_refl _) B4 HP.out
                have HZ := Lib.hid hZ
                have HF := Lib.hid hf
                have HG := Lib.hid hG
                clear hZ hf hG K4 B4 b4 cT
                go_wp2_with fail
                rw [HZ.out]
                obtain ⟨u0, u1, u2⟩ := HF.out
                exact bodyPost_ret (v := .tuple #[.agg #[.bool false, .slice none 0 0, .slice none 0 0], .int .i64 3]) (by simp [results, Tryz.results42, go_sem, u0, u1, u2]) rfl HG.out
          all_goals
            obtain ⟨i0, i1, i2, i3, i4, i5⟩ := KRT.facts
            obtain ⟨Z, hZ, hf, hG⟩ := fparse_zero (w := w) (bs := bs) KRT (Nat.le_refl _) BT (fparse_behind HE2.out.1 HE2.out.2 hpy (by omega))
            have HZ := Lib.hid hZ
            have HF := Lib.hid hf
            have HG := Lib.hid hG
            clear hZ hf hG KRT KT BT bT rT qT r3 ry K3 k3 B3 b3 hny hpy sT
            go_wp2_with fail
            rw [HZ.out]
            obtain ⟨u0, u1, u2⟩ := HF.out
            exact bodyPost_ret (v := .tuple #[.agg #[.bool false, .slice none 0 0, .slice none 0 0], .int .i64 3]) (by simp [results, Tryz.results42, go_sem, u0, u1, u2]) rfl HG.out
      all_goals
        have hz : IsFParse bs 0 0 3 := by
          rcases HE.out with ⟨h1, h2⟩ | ⟨h1, h2, h3⟩
          · rw [h1, List.take_length] at hpx
            exact (fparse_plain h2 hpx).2 (by omega)
          · exact fparse_ahead h2 h3 hpx (by omega)
        obtain ⟨i0, i1, i2, i3, i4, i5⟩ := KR.facts
        obtain ⟨U, hU, hf, hG⟩ := fparse_zero (w := w) (bs := bs) KR (Nat.le_refl _) BV hz
        have HU := Lib.hid hU
        have HF := Lib.hid hf
        have HG := Lib.hid hG
        clear hU hf hG hnx hvx hpx KR kV BV K2 B2 BW2 BW b2 rx bV rV hz
        go_wp2_with fail
        rw [HU.out]
        obtain ⟨u0, u1, u2⟩ := HF.out
        exact bodyPost_ret (v := .tuple #[.agg #[.bool false, .slice none 0 0, .slice none 0 0], .int .i64 3]) (by simp [results, Tryz.results42, go_sem, u0, u1, u2]) rfl HG.out
end Go.Proofs.YtidbpkibjficnaaGreatDoor
