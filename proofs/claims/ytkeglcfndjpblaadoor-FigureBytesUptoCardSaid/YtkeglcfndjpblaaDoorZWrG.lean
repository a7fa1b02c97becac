/- Whole numbers, the document's own: what Text and Parse answer. -/
import Derived.Test.YtkeglcfndjpblaaDoorZLawF
import Derived.Test.YtkeglcfndjpblaaDoorZWhJ
namespace Go.Proofs.YtkeglcfndjpblaaDoor
open Go.RowKit Num

set_option maxRecDepth 10000 in
set_option maxHeartbeats 1600000 in
theorem ref2_Text (n1 : Bool) (a : List Nat) (A : Option Addr) (ca : Nat) (w : World) (h : Rd w (fun g => g < w.heap.size) .u32 A a) (hl : a.length ≤ 2097152) (ha : Dg 4294967296 a) :
    Calls Tryd.prog 25 #[.agg #[.bool n1, .slice A a.length ca]] w fun e w' => e = .returned (.string ⟨(wtext (wv n1 a)).toArray⟩) ∧ Below w.heap.size w w' := by
  have B0 := below_new w (.cells #[.bool n1, .slice A a.length ca] 54)
  have cG := ref2_Sign n1 a A ca _ (h.on B0) (by omega) ha
  have hlen := dec_len_words (val_lt ha)
  by_cases hneg : wv n1 a < 0
  · have HX := Lib.hid (show wtext (wv n1 a) = 45 :: Lib.decDigits (val 4294967296 a) by unfold wtext; rw [if_pos hneg, wv_abs])
    rw [HX.out]
    rw [show sgn (wv n1 a) = -1 by unfold sgn; rw [if_pos hneg]] at cG
    clear hneg
    go_enter Tryd.func25, Tryd.ntmps25
    go_wp2_with fail
    refine cG.mono ?_
    rintro e w1 ⟨rfl, b1⟩
    obtain ⟨k1, k2⟩ := box_cells b1
    have B1 := B0.trans (b1.mono B0.size)
    have cT := ref_Text a A ca w1 (h.on B1) hl ha
    obtain ⟨ds, hds⟩ : ∃ ds, Lib.decDigits (val 4294967296 a) = ds := ⟨_, rfl⟩
    have HDS := Lib.hid hds
    rw [hds] at cT hlen
    have hl2 : 1 + ds.length ≤ 9223372036854775807 := by omega
    clear cG hlen hds
    go_wp2_with fail
    refine cT.mono ?_
    rintro e w2 ⟨rfl, b2⟩
    clear cT
    go_wp2_with fail
    go_ret
    refine ⟨?_, B1.trans (b2.mono B1.size)⟩
    rw [HDS.out, app_text (l := 45 :: ds) (by simp)]; rfl
  · have HX := Lib.hid (show wtext (wv n1 a) = Lib.decDigits (val 4294967296 a) by unfold wtext; rw [if_neg hneg, wv_abs])
    rw [HX.out]
    obtain ⟨z, hz, hz0⟩ : ∃ z, sgn (wv n1 a) = z ∧ 0 ≤ z := ⟨_, rfl, by unfold sgn; rw [if_neg hneg]; split <;> omega⟩
    rw [hz] at cG
    clear hneg hz
    go_enter Tryd.func25, Tryd.ntmps25
    go_wp2_with fail
    refine cG.mono ?_
    rintro e w1 ⟨rfl, b1⟩
    obtain ⟨k1, k2⟩ := box_cells b1
    have B1 := B0.trans (b1.mono B0.size)
    have cT := ref_Text a A ca w1 (h.on B1) hl ha
    clear cG
    go_wp2_with fail
    refine cT.mono ?_
    rintro e w2 ⟨rfl, b2⟩
    clear cT
    go_wp2_with fail
    go_ret
    exact ⟨rfl, B1.trans (b2.mono B1.size)⟩

set_option maxRecDepth 10000 in
set_option maxHeartbeats 3200000 in
theorem ref2_Parse (t : ByteArray) (hsz : t.size ≤ 1048576) (w : World) :
    Calls Tryd.prog 22 #[.string t] w (WParses t.data.toList w) := by
  have B0 := below_new w (.cells #[.bool false, .slice none 0 0] 54)
  have HXL := Lib.hid (fun (N : Nat) (xs : List Nat) (hn : Norm 4294967296 xs) (hv : val 4294967296 xs = N) {bs : List UInt8} {er : Nat} (h : IsParse bs N er) => (show xs.length ≤ 1073741824 by
    subst hv
    refine Nat.le_trans (m := 2000) ?_ (by omega)
    rcases h with ⟨_, h0, _⟩ | ⟨_, _, h0, _⟩ | ⟨hb, hd, h0, _⟩
    · rw [(hn.2.nil_iff (b := 4294967296) (by omega)).2 h0]; simp
    · rw [(hn.2.nil_iff (b := 4294967296) (by omega)).2 h0]; simp
    · have := decVal_lt hd.2.2
      obtain ⟨m, hm⟩ : ∃ m, 2000 = m := ⟨_, rfl⟩
      rw [hm] at hb ⊢
      refine hn.2.length_le (b := 4294967296) (by omega) ?_
      rw [h0]
      refine Nat.lt_of_lt_of_le this (Nat.le_trans (Nat.pow_le_pow_right (by omega) hb) (Nat.pow_le_pow_left (by omega) m))))
  by_cases h0 : t.size = 0
  · obtain rfl : t = ⟨#[]⟩ := by
      apply ByteArray.ext
      exact Array.eq_empty_of_size_eq_zero h0
    have HCUT := Lib.hid (show Ahead (ByteArray.mk #[]).data.toList false (ByteArray.mk #[]).data.toList from .inr ⟨rfl, rfl, by simp⟩)
    have cP := ref_Parse ⟨#[]⟩ hsz (w.alloc (.cells #[.bool false, .slice none 0 0] 54))
    go_enter Tryd.func22, Tryd.ntmps22
    go_wp2_with fail
    refine cP.mono ?_
    rintro e w2 ⟨A1, xs, c1, er, rfl, hc1, hn1, hp1, hr1, b1⟩
    have HN1 := Lib.hid hn1
    have HP1 := Lib.hid hp1
    have B1 := B0.trans (b1.mono B0.size)
    obtain ⟨f0, f1, f2, f3⟩ := new_whole w b1
    clear hn1 hp1 cP
    rcases HP1.out with ⟨_, h0, rfl⟩ | ⟨_, _, h0, rfl⟩ | ⟨_, hdec, h0, rfl⟩
    · clear h0
      go_wp2_with fail
      obtain ⟨r0, r1, r2, r3⟩ := stored_whole f0 (.bool false) (.slice none 0 0)
      exact bodyPost_ret (v := .tuple #[.agg #[.bool false, .slice none 0 0], .int .i64 4]) (by simp [results, Tryd.results22, go_sem, r0, r1]) rfl
        ⟨none, [], 0, _, 0, rfl, by simp, norm_nil _, rfl, ⟨false, _, _, _, HCUT.out, HP1.out, .inl ⟨by omega, rfl, rfl⟩⟩, Rd.nil, B1.trans (r3 _ (Nat.le_refl _))⟩
    · clear h0
      go_wp2_with fail
      obtain ⟨r0, r1, r2, r3⟩ := stored_whole f0 (.bool false) (.slice none 0 0)
      exact bodyPost_ret (v := .tuple #[.agg #[.bool false, .slice none 0 0], .int .i64 3]) (by simp [results, Tryd.results22, go_sem, r0, r1]) rfl
        ⟨none, [], 0, _, 0, rfl, by simp, norm_nil _, rfl, ⟨false, _, _, _, HCUT.out, HP1.out, .inl ⟨by omega, rfl, rfl⟩⟩, Rd.nil, B1.trans (r3 _ (Nat.le_refl _))⟩
    · clear h0 hdec
      have hxl : xs.length ≤ 1073741824 := HXL.out (val 4294967296 xs) xs HN1.out rfl HP1.out
      obtain ⟨N, hN⟩ : ∃ N, wv false xs = N := ⟨_, rfl⟩
      have cK := ref2_Make false xs A1 c1 N w2 hr1 hxl HN1.out.1 hN
      have HE := Lib.hid hN
      clear hN
      go_wp2_with fail
      refine cK.mono ?_
      rintro e w3 ⟨A3, ys, c3, rfl, hc3, hn3, hv3, hr3, b3⟩
      have HN3 := Lib.hid hn3
      have HV3 := Lib.hid hv3
      have B3 := B1.trans (b3.mono B1.size)
      obtain ⟨g0, g1, g2, g3⟩ := new_whole w (b1.trans (b3.mono b1.size))
      clear f0 f1 f2 f3 hn3 hv3 cK
      go_wp2_with fail
      obtain ⟨r0, r1, r2, r3⟩ := stored_whole g0 (.bool (decide (N < 0))) (.slice A3 ys.length c3)
      exact bodyPost_ret (v := .tuple #[.agg #[.bool (decide (N < 0)), .slice A3 ys.length c3], .int .i64 0]) (by simp [results, Tryd.results22, go_sem, r0, r1]) rfl
        ⟨A3, ys, c3, 0, N, rfl, hc3, HN3.out, HV3.out, ⟨false, _, _, _, HCUT.out, HP1.out, .inr (.inr ⟨rfl, by simp, rfl, by rw [← HE.out]; rfl⟩)⟩, hr3.stored g0 _ _, B3.trans (r3 _ (Nat.le_refl _))⟩
  · have hpos : 0 < t.size := by omega
    have he1 : ¬ t.toList = [] := by
      intro hh
      have : t.data.toList = [] := by rw [← ByteArray.toList_eq]; exact hh
      have := data_size t
      rw [‹t.data.toList = []›] at this
      simp at this; omega
    have he2 : t.toList.isEmpty = false := by
      cases hh : t.toList.isEmpty
      · rfl
      · exact absurd (List.isEmpty_iff.1 hh) he1
    by_cases h45 : t[0] = 45
    · have HCUT := Lib.hid (show Ahead t.data.toList true (t.extract 1 t.size).data.toList from .inl ⟨rfl, by
        rw [extract_data, List.take_of_length_le (by rw [List.length_drop, data_size]; exact Nat.le_refl _), ← h45, ← data_get t hpos]
        have := List.drop_eq_getElem_cons (l := t.data.toList) (i := 0) (by rw [data_size]; exact hpos)
        simpa using this⟩)
      have cP := ref_Parse (t.extract 1 t.size) (by rw [ByteArray.size_extract]; omega) (w.alloc (.cells #[.bool false, .slice none 0 0] 54))
      go_enter Tryd.func22, Tryd.ntmps22
      go_wp2_with fail
      refine cP.mono ?_
      rintro e w2 ⟨A1, xs, c1, er, rfl, hc1, hn1, hp1, hr1, b1⟩
      have HN1 := Lib.hid hn1
      have HP1 := Lib.hid hp1
      have B1 := B0.trans (b1.mono B0.size)
      obtain ⟨f0, f1, f2, f3⟩ := new_whole w b1
      clear hn1 hp1 cP
      rcases HP1.out with ⟨_, h0, rfl⟩ | ⟨_, _, h0, rfl⟩ | ⟨_, hdec, h0, rfl⟩
      · clear h0
        go_wp2_with fail
        obtain ⟨r0, r1, r2, r3⟩ := stored_whole f0 (.bool false) (.slice none 0 0)
        exact bodyPost_ret (v := .tuple #[.agg #[.bool false, .slice none 0 0], .int .i64 4]) (by simp [results, Tryd.results22, go_sem, r0, r1]) rfl
          ⟨none, [], 0, _, 0, rfl, by simp, norm_nil _, rfl, ⟨true, _, _, _, HCUT.out, HP1.out, .inl ⟨by omega, rfl, rfl⟩⟩, Rd.nil, B1.trans (r3 _ (Nat.le_refl _))⟩
      · clear h0
        go_wp2_with fail
        obtain ⟨r0, r1, r2, r3⟩ := stored_whole f0 (.bool false) (.slice none 0 0)
        exact bodyPost_ret (v := .tuple #[.agg #[.bool false, .slice none 0 0], .int .i64 3]) (by simp [results, Tryd.results22, go_sem, r0, r1]) rfl
          ⟨none, [], 0, _, 0, rfl, by simp, norm_nil _, rfl, ⟨true, _, _, _, HCUT.out, HP1.out, .inl ⟨by omega, rfl, rfl⟩⟩, Rd.nil, B1.trans (r3 _ (Nat.le_refl _))⟩
      · clear h0 hdec
        by_cases hx : xs.length = 0
        · obtain rfl : xs = [] := List.eq_nil_of_length_eq_zero hx
          go_wp2_with fail
          obtain ⟨r0, r1, r2, r3⟩ := stored_whole f0 (.bool false) (.slice none 0 0)
          exact bodyPost_ret (v := .tuple #[.agg #[.bool false, .slice none 0 0], .int .i64 3]) (by simp [results, Tryd.results22, go_sem, r0, r1]) rfl
            ⟨none, [], 0, _, 0, rfl, by simp, norm_nil _, rfl, ⟨true, _, _, _, HCUT.out, HP1.out, .inr (.inl ⟨rfl, ⟨rfl, rfl⟩, rfl, rfl⟩)⟩, Rd.nil, B1.trans (r3 _ (Nat.le_refl _))⟩
        · have hpos2 : 0 < xs.length := by omega
          have HM := Lib.hid (show ¬ val 4294967296 xs = 0 from fun h0 => hx (by rw [(HN1.out.2.nil_iff (b := 4294967296) (by omega)).2 h0]; rfl))
          have hxl : xs.length ≤ 1073741824 := HXL.out (val 4294967296 xs) xs HN1.out rfl HP1.out
          obtain ⟨N, hN⟩ : ∃ N, wv true xs = N := ⟨_, rfl⟩
          have cK := ref2_Make true xs A1 c1 N w2 hr1 hxl HN1.out.1 hN
          have HE := Lib.hid hN
          clear hN
          go_wp2_with fail
          refine cK.mono ?_
          rintro e w3 ⟨A3, ys, c3, rfl, hc3, hn3, hv3, hr3, b3⟩
          have HN3 := Lib.hid hn3
          have HV3 := Lib.hid hv3
          have B3 := B1.trans (b3.mono B1.size)
          obtain ⟨g0, g1, g2, g3⟩ := new_whole w (b1.trans (b3.mono b1.size))
          clear f0 f1 f2 f3 hn3 hv3 cK
          go_wp2_with fail
          obtain ⟨r0, r1, r2, r3⟩ := stored_whole g0 (.bool (decide (N < 0))) (.slice A3 ys.length c3)
          exact bodyPost_ret (v := .tuple #[.agg #[.bool (decide (N < 0)), .slice A3 ys.length c3], .int .i64 0]) (by simp [results, Tryd.results22, go_sem, r0, r1]) rfl
            ⟨A3, ys, c3, 0, N, rfl, hc3, HN3.out, HV3.out, ⟨true, _, _, _, HCUT.out, HP1.out, .inr (.inr ⟨rfl, fun hh => HM.out hh.2, rfl, by rw [← HE.out]; rfl⟩)⟩, hr3.stored g0 _ _, B3.trans (r3 _ (Nat.le_refl _))⟩
    · have HCUT := Lib.hid (show Ahead t.data.toList false t.data.toList from .inr ⟨rfl, rfl, by
        intro hh
        have h1 : t.data.toList[0]? = some 45 := by rw [← List.head?_eq_getElem?]; exact hh
        rw [List.getElem?_eq_getElem (by rw [data_size]; exact hpos), data_get t hpos] at h1
        exact h45 (by injection h1)⟩)
      have h45' : ((t[0].toNat : Int) == 45) = false := by
        have : ¬ ((t[0].toNat : Nat) : Int) = 45 := fun hh => h45 (by rw [← UInt8.toNat_inj]; show t[0].toNat = 45; omega)
        simpa using this
      have cP := ref_Parse t hsz (w.alloc (.cells #[.bool false, .slice none 0 0] 54))
      go_enter Tryd.func22, Tryd.ntmps22
      go_wp2_with fail
      refine cP.mono ?_
      rintro e w2 ⟨A1, xs, c1, er, rfl, hc1, hn1, hp1, hr1, b1⟩
      have HN1 := Lib.hid hn1
      have HP1 := Lib.hid hp1
      have B1 := B0.trans (b1.mono B0.size)
      obtain ⟨f0, f1, f2, f3⟩ := new_whole w b1
      clear hn1 hp1 cP
      rcases HP1.out with ⟨_, h0, rfl⟩ | ⟨_, _, h0, rfl⟩ | ⟨_, hdec, h0, rfl⟩
      · clear h0
        go_wp2_with fail
        obtain ⟨r0, r1, r2, r3⟩ := stored_whole f0 (.bool false) (.slice none 0 0)
        exact bodyPost_ret (v := .tuple #[.agg #[.bool false, .slice none 0 0], .int .i64 4]) (by simp [results, Tryd.results22, go_sem, r0, r1]) rfl
          ⟨none, [], 0, _, 0, rfl, by simp, norm_nil _, rfl, ⟨false, _, _, _, HCUT.out, HP1.out, .inl ⟨by omega, rfl, rfl⟩⟩, Rd.nil, B1.trans (r3 _ (Nat.le_refl _))⟩
      · clear h0
        go_wp2_with fail
        obtain ⟨r0, r1, r2, r3⟩ := stored_whole f0 (.bool false) (.slice none 0 0)
        exact bodyPost_ret (v := .tuple #[.agg #[.bool false, .slice none 0 0], .int .i64 3]) (by simp [results, Tryd.results22, go_sem, r0, r1]) rfl
          ⟨none, [], 0, _, 0, rfl, by simp, norm_nil _, rfl, ⟨false, _, _, _, HCUT.out, HP1.out, .inl ⟨by omega, rfl, rfl⟩⟩, Rd.nil, B1.trans (r3 _ (Nat.le_refl _))⟩
      · clear h0 hdec
        have hxl : xs.length ≤ 1073741824 := HXL.out (val 4294967296 xs) xs HN1.out rfl HP1.out
        obtain ⟨N, hN⟩ : ∃ N, wv false xs = N := ⟨_, rfl⟩
        have cK := ref2_Make false xs A1 c1 N w2 hr1 hxl HN1.out.1 hN
        have HE := Lib.hid hN
        clear hN
        go_wp2_with fail
        refine cK.mono ?_
        rintro e w3 ⟨A3, ys, c3, rfl, hc3, hn3, hv3, hr3, b3⟩
        have HN3 := Lib.hid hn3
        have HV3 := Lib.hid hv3
        have B3 := B1.trans (b3.mono B1.size)
        obtain ⟨g0, g1, g2, g3⟩ := new_whole w (b1.trans (b3.mono b1.size))
        clear f0 f1 f2 f3 hn3 hv3 cK
        go_wp2_with fail
        obtain ⟨r0, r1, r2, r3⟩ := stored_whole g0 (.bool (decide (N < 0))) (.slice A3 ys.length c3)
        exact bodyPost_ret (v := .tuple #[.agg #[.bool (decide (N < 0)), .slice A3 ys.length c3], .int .i64 0]) (by simp [results, Tryd.results22, go_sem, r0, r1]) rfl
          ⟨A3, ys, c3, 0, N, rfl, hc3, HN3.out, HV3.out, ⟨false, _, _, _, HCUT.out, HP1.out, .inr (.inr ⟨rfl, by simp, rfl, by rw [← HE.out]; rfl⟩)⟩, hr3.stored g0 _ _, B3.trans (r3 _ (Nat.le_refl _))⟩
end Go.Proofs.YtkeglcfndjpblaaDoor
